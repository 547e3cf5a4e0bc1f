/- What the laws of layer 8 share: may a case be looked at; the document's example. -/
import Derived.Test.YtlmaikbnjdmhcaaGreatDoorTuW
namespace Go.Proofs.YtlmaikbnjdmhcaaGreatDoor.K6
open Go.RowKit W8
set_option linter.unusedVariables false
open Classical in
noncomputable def mayB (s : CS) : Bool := if s.May then true else false
theorem mayB_yes {s : CS} (h : s.May) : mayB s = true := by unfold mayB; rw [if_pos h]
theorem mayB_no {s : CS} (h : ¬ s.May) : mayB s = false := by unfold mayB; rw [if_neg h]
theorem mayB_may {s : CS} (h : mayB s = true) : s.May := by
  unfold mayB at h
  split at h
  · assumption
  · cases h
set_option maxRecDepth 100000 in
theorem may_at {w : World} (s : CS) {vr vf vg : Value} (hC : CaseAt w s vr vf vg) :
    Calls Tryz.prog 27 #[.agg (crow s vr vf vg)] w fun e w' => e = .returned (.bool (mayB s)) ∧ Below w.heap.size w w' := by
  obtain ⟨pr, cr, rfl, _⟩ := id hC.rr
  obtain ⟨pf, cf, rfl, _⟩ := id hC.rf
  obtain ⟨pg, cg, rfl, _⟩ := id hC.rg
  have gX : Hid (Below w.heap.size w (w.alloc (.cells (crow s (.slice pr s.lr cr) (.slice pf s.lf cf) (.slice pg s.lg cg)) 69))) := bel_alK (Below.refl _ _)
  have hX : (w.alloc (.cells (crow s (.slice pr s.lr cr) (.slice pf s.lf cf) (.slice pg s.lg cg)) 69)).heap[w.heap.size]? = some (.cells (crow s (.slice pr s.lr cr) (.slice pf s.lf cf) (.slice pg s.lg cg)) 69 (0, 0)) := heap_alloc_last _ _
  have x0 := row_cell hX (j := 0) (v := .int .i64 s.nw) rfl
  have x1 := row_cell hX (j := 1) (v := .int .i64 s.c) rfl
  have x2 := row_cell hX (j := 2) (v := .slice pr s.lr cr) rfl
  have x3 := row_cell hX (j := 3) (v := .slice pf s.lf cf) rfl
  have x4 := row_cell hX (j := 4) (v := .int .u8 s.fl) rfl
  have x5 := row_cell hX (j := 5) (v := .int .u8 s.pl) rfl
  have x6 := row_cell hX (j := 6) (v := .slice pg s.lg cg) rfl
  clear hX hC
  go_enter Tryz.func27, Tryz.ntmps27
  go_upto_region 1 with (fail)
  change Code.wp _ _ _ _ (w.alloc (.cells (crow s (.slice pr s.lr cr) (.slice pf s.lf cf) (.slice pg s.lg cg)) 69))
  generalize w.alloc (.cells (crow s (.slice pr s.lr cr) (.slice pf s.lf cf) (.slice pg s.lg cg)) 69) = V at *
  by_cases h0 : 2 ≤ s.nw
  case neg => have e : Hid (mayB s = false) := mayB_no (fun m => h0 m.n2); go_wp2_with fail; go_ret; exact ⟨by rw [e.out]; rfl, gX.out⟩
  by_cases h1 : s.nw ≤ 32
  case neg => have e : Hid (mayB s = false) := mayB_no (fun m => h1 m.n32); go_wp2_with fail; go_ret; exact ⟨by rw [e.out]; rfl, gX.out⟩
  by_cases h2 : 0 ≤ s.c
  case neg => have e : Hid (mayB s = false) := mayB_no (fun m => h2 m.c0); go_wp2_with fail; go_ret; exact ⟨by rw [e.out]; rfl, gX.out⟩
  by_cases h3 : s.c < s.nw
  case neg => have e : Hid (mayB s = false) := mayB_no (fun m => h3 m.c1); go_wp2_with fail; go_ret; exact ⟨by rw [e.out]; rfl, gX.out⟩
  by_cases h4 : s.pl ≤ 15
  case neg => have e : Hid (mayB s = false) := mayB_no (fun m => h4 m.pl); go_wp2_with fail; go_ret; exact ⟨by rw [e.out]; rfl, gX.out⟩
  by_cases h5 : s.fl ≤ 15
  case neg => have e : Hid (mayB s = false) := mayB_no (fun m => h5 m.fl); go_wp2_with fail; go_ret; exact ⟨by rw [e.out]; rfl, gX.out⟩
  by_cases h6 : (s.lr : Int) ≤ 512
  case neg => have e : Hid (mayB s = false) := mayB_no (fun m => h6 (by have := m.lr; omega)); go_wp2_with fail; go_ret; exact ⟨by rw [e.out]; rfl, gX.out⟩
  by_cases h7 : (s.lf : Int) ≤ 64
  case neg => have e : Hid (mayB s = false) := mayB_no (fun m => h7 (by have := m.lf; omega)); go_wp2_with fail; go_ret; exact ⟨by rw [e.out]; rfl, gX.out⟩
  by_cases h8 : (s.lg : Int) ≤ 120
  case neg => have e : Hid (mayB s = false) := mayB_no (fun m => h8 (by have := m.lg; omega)); go_wp2_with fail; go_ret; exact ⟨by rw [e.out]; rfl, gX.out⟩
  have e : Hid (mayB s = true) := mayB_yes ⟨h0, h1, h2, h3, h4, h5, by omega, by omega, by omega⟩
  go_wp2_with fail
  go_ret
  exact ⟨by rw [e.out]; rfl, gX.out⟩
section
variable {w : World} {b fb mb g x : Nat} {cs os : Value} {G : Nat → Prop} {m : MS}
theorem file_bel (h : MachP w b fb mb g x cs os G m) : Calls Tryz.prog 15 #[.pointer (some ⟨b, 0, none⟩)] w fun e w' => e = .returned (.pointer (some ⟨fb, 0, none⟩)) ∧ Below w.heap.size w w' :=
  (File_get h).mono fun e w' ⟨h1, h2⟩ => ⟨h1, h2 ▸ Below.refl _ _⟩
theorem window_c (h : MachP w b fb mb g x cs os G m) (c : Int) (c0 : 0 ≤ c) (c1 : c < m.nw) {W : World} (k : Below w.heap.size w W) :
    Calls Tryz.prog 16 #[.pointer (some ⟨fb, 0, none⟩), .int .i64 c] W fun e w' => ∃ sb, e = .returned (.tuple #[.slice (some ⟨sb, 0, none⟩) 16 16, .int .i64 0]) ∧ w'.heap[sb]? = some (.cells (F3.wl fun i => m.R ((16 * c).toNat + i)).toArray 22 (0, 0)) ∧ ¬ G sb ∧ Below W.heap.size W w' := by
  refine (F3.window_at fb m.nw c m.R W (h.bel k).file h.ok.n2 h.ok.n32 c0 c1).mono ?_
  rintro e w' ⟨rfl, gr, hrow⟩
  refine ⟨_, rfl, ?_, fun e => absurd ((h.bel k).lt _ e) (Nat.lt_irrefl _), gr⟩
  rw [show (16 * c).toNat = c.toNat * 16 by omega]
  exact hrow
theorem spect_one {o : Obj} {y : Nat} (h : w.heap[y]? = some o) (hy : ¬ G y) : Spect w [⟨b, G, m⟩] y o := ⟨h, fun j e hj => by
  cases j with
  | zero => simp at hj; subst hj; exact hy
  | succ j => simp at hj⟩
theorem wl_sl {y : Nat} {F : Nat → Int} (h : w.heap[y]? = some (.cells (F3.wl F).toArray 22 (0, 0))) : Sl .u32 w (.slice (some ⟨y, 0, none⟩) 16 16) 16 F := ⟨_, _, rfl, fun _ => ⟨_, 0, rfl, fun i hi => row_cell h (by simp [F3.wl, hi])⟩⟩
theorem get_c (h : MachP w b fb mb g x cs os G m) (c : Int) (c0 : 0 ≤ c) (c1 : c < m.nw) {v : Int} (hv : m.R (F3.loc m.nw c 0 14) = v) :
    Calls Tryz.prog 18 #[.pointer (some ⟨fb, 0, none⟩), .int .i64 c, .int .i64 0, .int .i64 14] w fun e w' => e = .returned (.tuple #[.int .u32 v, .int .i64 0]) ∧ Below w.heap.size w w' := by
  rw [← hv]
  exact F3.get_at fb m.nw c 0 14 m.R w h.file h.ok.n2 h.ok.n32 ⟨c0, c1, by decide, by decide, by decide, by decide⟩
theorem psr_bel (h : MachP w b fb mb g x cs os G m) {c p k f : Int} (hc : m.cwp = c) (hp : m.pil = p) (hk : m.bank = k) (hf : m.fl = f) : Calls Tryz.prog 34 #[.pointer (some ⟨b, 0, none⟩)] w fun e w' => e = .returned (.agg #[.int .u8 c, .int .u8 p, .int .u8 k, .int .u8 f]) ∧ Below w.heap.size w w' := by
  rw [← hc, ← hp, ← hk, ← hf]
  exact Psr_get h
end
/-- The document's example. -/
def hS : CS := ⟨3, 0, 48, fun i => if i < 48 then 1000 + (i : Int) else 0, 3, fun i => if i = 1 then 100 else if i = 2 then 200 else 0, 0, 0, 0, fun _ => 0, 0, false⟩
theorem hS_may : hS.May := ⟨by decide, by decide, by decide, by decide, by decide, by decide, by decide, by decide, by decide⟩
theorem hS_b : CSB hS :=
  ⟨fun i => by show W32 (if i < 48 then 1000 + (i : Int) else 0); unfold W32; split <;> omega,
   fun i => by show 0 ≤ (if i = 1 then (100 : Int) else if i = 2 then 200 else 0) ∧ (if i = 1 then (100 : Int) else if i = 2 then 200 else 0) < 65536; split; omega; split <;> omega,
   by decide, by decide, fun _ => ⟨Int.le_refl _, by show (0 : Int) < 4294967296; decide⟩, ⟨by decide, by decide⟩⟩
theorem hS_fr : hS.gR hS.lg (F3.loc hS.nw 1 16 14) = ((2448 : Nat) : Int) := by decide +kernel
theorem hS_1016 : hS.gR hS.lg 16 = 1016 := by decide +kernel
theorem hS_run : ∃ e, Dn (mW hS) 2 2 1540 (ptB hS.mem 2448 (fun k => hS.gR hS.lg (16 + k)) 16) (hS.gR hS.lg) e ∧ Runs 1540 29 (mW hS) e := by
  have H := w0_made hS_may hS_b
  obtain ⟨e, D, R⟩ := over_run (m0 := mW hS) H ⟨show (984 : Int) ≤ 1536 by decide, show (1536 : Int) + 4 ≤ 2048 by decide, show (1536 : Int) % 4 = 0 by decide⟩ (mem_code hS_may) rfl (l := 1) (by decide) (s := 2448) hS_fr (by decide) (by decide) (by decide)
  exact ⟨e, D, R⟩
/-- A row of cells. -/
def frow (n : Nat) (c : Nat → Value) : Array Value := ((List.range n).map c).toArray
theorem frow_get {n : Nat} (c : Nat → Value) {j : Nat} (h : j < n) : (frow n c)[j]? = some (c j) := by simp [frow, h]
theorem frow_set (n : Nat) (c : Nat → Value) (j : Nat) (v : Value) : (frow n c).setIfInBounds j v = frow n (updV c j v) := by
  apply Array.ext
  · simp [frow]
  · intro i h1 h2
    simp only [frow, updV, List.getElem_toArray, List.getElem_map, List.getElem_range]
    by_cases e : j = i
    · subst e; simp
    · have e' : ¬ i = j := fun h => e h.symm
      simp [e, e']
def hrow (k j : Nat) : Value := .int .u32 (if j < k then 1000 + (j : Int) else 0)
theorem hrow_set (k : Nat) : updV (hrow k) k (.int .u32 (1000 + (k : Int))) = hrow (k + 1) := by
  funext j
  unfold updV hrow
  by_cases e : j = k
  · subst e; rw [if_pos rfl, if_pos (by omega)]
  · rw [if_neg e]
    by_cases h : j < k
    · rw [if_pos h, if_pos (by omega)]
    · rw [if_neg h, if_neg (by omega)]
theorem hrow_0 : madeCells #[.int .u32 0] 48 = frow 48 (hrow 0) := by kernel_rfl
/-- The example's case and its registers, so far. -/
structure WH (w V : World) (k x y z : Nat) : Prop where
  X : V.heap[x]? = some (.cells (crow hS (.slice (some ⟨z, 0, none⟩) 48 48) (.slice (some ⟨y, 0, none⟩) 3 3) (.slice none 0 0)) 69 (0, 0))
  Y : V.heap[y]? = some (.cells #[.int .u16 0, .int .u16 100, .int .u16 200] 144 (0, 0))
  Z : V.heap[z]? = some (.cells (frow 48 (hrow k)) 22 (0, 0))
  zx : z ≠ x
  zy : z ≠ y
  lz : w.heap.size ≤ z
  g : Below w.heap.size w V
theorem WH.set {w V : World} {k x y z : Nat} (h : WH w V k x y z) : WH w (V.setCell ⟨z, k, none⟩ (.int .u32 (1000 + (k : Int)))) (k + 1) x y z := by
  have := heap_setCell_same V z k _ _ (.int .u32 (1000 + (k : Int))) h.Z
  rw [frow_set, hrow_set] at this
  exact ⟨by rw [heap_setCell_other _ _ _ _ (fun e => h.zx e.symm)]; exact h.X, by rw [heap_setCell_other _ _ _ _ (fun e => h.zy e.symm)]; exact h.Y, this, h.zx, h.zy, h.lz, h.g.setCell (p := ⟨z, k, none⟩) h.lz _⟩
theorem WH.case {w V : World} {x y z : Nat} (h : WH w V 48 x y z) : CaseAt V hS (.slice (some ⟨z, 0, none⟩) 48 48) (.slice (some ⟨y, 0, none⟩) 3 3) (.slice none 0 0) :=
  ⟨⟨_, _, rfl, fun _ => ⟨z, 0, rfl, fun i (hi : i < 48) => by
      rw [Nat.zero_add]
      exact row_cell h.Z (frow_get _ hi)⟩⟩,
   ⟨_, _, rfl, fun _ => ⟨y, 0, rfl, fun i (hi : i < 3) => by
      rw [Nat.zero_add]
      match i, hi with
      | 0, _ => exact row_cell h.Y rfl
      | 1, _ => exact row_cell h.Y rfl
      | 2, _ => exact row_cell h.Y rfl⟩⟩, Sl.nil _ _ _ _ _⟩
theorem WH.start (w : World) : WH w (((w.alloc (.cells #[.int .u16 0, .int .u16 100, .int .u16 200] 144)).alloc (.cells (madeCells #[.int .u32 0] 48) 22)).alloc (.cells (crow hS (.slice (some ⟨w.heap.size + 1, 0, none⟩) 48 48) (.slice (some ⟨w.heap.size, 0, none⟩) 3 3) (.slice none 0 0)) 69)) 0 (w.heap.size + 1 + 1) w.heap.size (w.heap.size + 1) := by
  have s1 : ∀ (V : World) (o : Obj), (V.alloc o).heap.size = V.heap.size + 1 := fun V o => by simp
  have g : ∀ (V : World) (o : Obj), Below V.heap.size V (V.alloc o) := fun V o => bel_alK (Below.refl _ _)
  have l : ∀ (V : World) (o : Obj) (n : Nat), V.heap.size = n → (V.alloc o).heap[n]? = some o := fun V o n e => by subst e; exact heap_alloc_last _ _
  exact ⟨l _ _ _ (by rw [s1, s1]), bel_heap (bel_trans (g _ _) (g _ _)) (l _ _ _ rfl), by rw [← hrow_0]; exact bel_heap (g _ _) (l _ _ _ (s1 _ _)), by omega, by omega, by omega, bel_trans (bel_trans (g _ _) (g _ _)) (g _ _)⟩
set_option maxRecDepth 100000 in
set_option maxHeartbeats 8000000 in
theorem whead_at (w : World) (hT : Tabs w) :
    Calls Tryz.prog 28 #[] w fun e w' => e = .returned (.bool true) ∧ Below w.heap.size w w' := by
  have HT := Lib.hid hT
  have hmk : ∀ W, (Instr.makeSlice 25 (.int .i64 48) (.int .i64 48)).run Tryz.prog W = .ok (.slice (some ⟨W.heap.size, 0, none⟩) 48 48) (W.alloc (.cells (madeCells #[.int .u32 0] 48) 22)) := fun W => run_make_row' (P := Tryz.prog) 25 22 (.int .u32 0) 4 Tryz.underlying25 M5.u32_parts' rfl .i64 .i64 48 (by omega) (by omega) W
  clear hT
  go_enter Tryz.func28, Tryz.ntmps28
  go_upto_region 2 with (fail)
  have E0 := Lib.hid (WH.start w)
  change Code.wp _ _ _ _ (((w.alloc (.cells #[.int .u16 0, .int .u16 100, .int .u16 200] 144)).alloc (.cells (madeCells #[.int .u32 0] 48) 22)).alloc (.cells (crow hS (.slice (some ⟨w.heap.size + 1, 0, none⟩) 48 48) (.slice (some ⟨w.heap.size, 0, none⟩) 3 3) (.slice none 0 0)) 69))
  generalize (((w.alloc (.cells #[.int .u16 0, .int .u16 100, .int .u16 200] 144)).alloc (.cells (madeCells #[.int .u32 0] 48) 22)).alloc (.cells (crow hS (.slice (some ⟨w.heap.size + 1, 0, none⟩) 48 48) (.slice (some ⟨w.heap.size, 0, none⟩) 3 3) (.slice none 0 0)) 69)) = V at E0 ⊢
  generalize w.heap.size + 1 + 1 = x at E0 ⊢
  generalize w.heap.size + 1 = z at E0 ⊢
  generalize w.heap.size = y at E0 ⊢
  clear hmk
  go_wp2_with fail
  go_loopw [2] (fun i wr => ∃ k : Nat, k ≤ 48 ∧ i = .int .i64 k ∧ WH w wr k x y z) (fun i _ => 48 - (intOf i).toNat)
  case atStart => exact ⟨0, by decide, rfl, E0.out⟩
  case round =>
    obtain ⟨k, hk, rfl, E⟩ := hrel
    have E := Lib.hid E
    clear E0
    by_cases hlt : k < 48
    · have hlt' : (k : Int) < 48 := by omega
      have x2 : wr.cell? ⟨x, 2, none⟩ = some (.slice (some ⟨z, 0, none⟩) 48 48) := row_cell E.out.X rfl
      have cz : wr.cell? ⟨z, k, none⟩ = some (hrow k k) := row_cell E.out.Z (frow_get _ hlt)
      have fz : wr.frozen? ⟨z, k, none⟩ = false := row_frozen E.out.Z
      have u1 : IntKind.u32.wrap (1000 + (k : Int)) = 1000 + (k : Int) := IntWalk.u32_in _ (by omega)
      have ES := Lib.hid E.out.set
      go_wp2_with fail
      go_roundw
      case rel => exact ⟨k + 1, by omega, by go_num, ES.out⟩
      case measure => simp only [intOf]; omega
    · obtain rfl : k = 48 := by omega
      have x0 : wr.cell? ⟨x, 0, none⟩ = some (.int .i64 3) := row_cell E.out.X rfl
      have x1 : wr.cell? ⟨x, 1, none⟩ = some (.int .i64 0) := row_cell E.out.X rfl
      have x2 : wr.cell? ⟨x, 2, none⟩ = some (.slice (some ⟨z, 0, none⟩) 48 48) := row_cell E.out.X rfl
      have x3 : wr.cell? ⟨x, 3, none⟩ = some (.slice (some ⟨y, 0, none⟩) 3 3) := row_cell E.out.X rfl
      have x4 : wr.cell? ⟨x, 4, none⟩ = some (.int .u8 0) := row_cell E.out.X rfl
      have x5 : wr.cell? ⟨x, 5, none⟩ = some (.int .u8 0) := row_cell E.out.X rfl
      have x6 : wr.cell? ⟨x, 6, none⟩ = some (.slice none 0 0) := row_cell E.out.X rfl
      have x7 : wr.cell? ⟨x, 7, none⟩ = some (.int .u32 0) := row_cell E.out.X rfl
      have x8 : wr.cell? ⟨x, 8, none⟩ = some (.bool false) := row_cell E.out.X rfl
      go_wp2_with fail
      refine (wmade_at hS hS_may hS_b E.out.case (HT.out.bel E.out.g)).mono ?_; rintro e w1 ⟨b, G, rfl, B1, g1, low1⟩
      have A1 : Hid (AllM wr w1 [⟨b, G, mW hS⟩]) := (AllM.none (HT.out.bel E.out.g)).add g1 B1 low1
      obtain ⟨e1, D1, R1⟩ := hS_run
      have D1 := Lib.hid D1
      have R1 := Lib.hid R1
      clear x0 x1 x2 x3 x4 x5 x6 x7 x8 B1 g1 low1
      go_wp2_with fail
      refine (runs_at A1.out R1.out (by decide) (by show (0 : Nat) ≤ 1000; decide)).mono ?_; rintro e w2 ⟨rfl, G2, A2, _⟩
      have A2 := Lib.hid A2
      obtain ⟨fb, mb, gb, xb, cs, os, P⟩ := A2.out.at' 0 _ rfl
      have P2 := Lib.hid P
      clear A1 R1 P
      go_wp2_with fail
      refine (Mem_get P2.out).mono ?_; rintro e w3 ⟨rfl, rfl⟩
      go_wp2_with fail
      refine (M5.words_yes 2448 16 P2.out.mem (by rw [show e1.sz = 4096 from D1.out.sz]; decide)).mono ?_; rintro e w4 ⟨sw, rfl, SW, g4⟩
      have A4 := Lib.hid (A2.out.more g4)
      have P4 := Lib.hid (P2.out.bel g4)
      have SW := Lib.hid SW
      obtain ⟨pq, cq, rfl, hq⟩ := id SW.out
      obtain ⟨qz, qo, rfl, hqc⟩ := hq (by decide)
      clear A2 P2 g4 hq hqc
      go_wp2_with fail
      refine (File_get P4.out).mono ?_; rintro e w5 ⟨rfl, rfl⟩
      go_wp2_with fail
      refine (window_c P4.out 1 (by decide) (by rw [show e1.nw = 3 from D1.out.nw]; decide) (Below.refl _ _)).mono ?_; rintro e w6 ⟨sb, rfl, hrow, hng, g6⟩
      have A6 := Lib.hid (A4.out.more g6)
      have P6 := Lib.hid (P4.out.bel g6)
      have SW := Lib.hid (SW.out.bel g6)
      have HROW := Lib.hid hrow
      clear A4 P4 g6 hrow hng
      go_wp2_with fail
      refine (psr_bel P6.out D1.out.cwp rfl D1.out.bank rfl).mono ?_; rintro e w7 ⟨rfl, g7⟩
      have AM7 := Lib.hid (A6.out.more g7)
      have P7 := Lib.hid (P6.out.bel g7)
      have SW := Lib.hid (SW.out.bel g7)
      have HROW := Lib.hid (bel_heap g7 HROW.out)
      have hk3 := wpsr_cwp
      clear A6 P6 g7
      generalize e1.pil = pil1
      generalize e1.fl = fl1
      go_wp2_with fail
      have CW := Wim_get P7.out
      rw [show e1.wim = 2 from D1.out.wim] at CW
      refine CW.mono ?_; rintro e w8 ⟨rfl, rfl⟩
      have ew : ∀ i, i < 16 → M5.wdB e1.f 2448 i = hS.gR hS.lg (16 + i) := fun i hi => by
        show ldB e1.f (2448 + 4 * i) 4 = _
        rw [show e1.f = _ from D1.out.f, ld_ptw _ _ _ (fun i => gR_w hS_may hS_b _ _) 16 i hi]
      have SM := Lib.hid (M5.words_same _ _ 16 _ _ _ (by decide) SW.out (wl_sl HROW.out) (fun i hi => by
        rw [ew i hi]
        show _ = e1.R (16 + i)
        exact (D1.out.R _ (by omega) (by omega) (by omega)).symm))
      have c0 : w7.cell? ⟨qz, qo, none⟩ = some (.int .u32 1016) := by
        obtain ⟨pq', cq', e', hq'⟩ := SW.out
        obtain ⟨qz', qo', rfl, hqc⟩ := hq' (by decide)
        simp only [Value.slice.injEq, Option.some.injEq, Addr.mk.injEq] at e'
        obtain ⟨⟨rfl, rfl, _⟩, _, rfl⟩ := e'
        have := hqc 0 (by decide)
        rw [ew 0 (by decide), hS_1016] at this
        exact this
      clear CW ew SW HROW P7
      go_wp2_with fail
      refine SM.out.mono ?_; rintro e w9 ⟨rfl, g9⟩
      have AM9 := Lib.hid (AM7.out.more g9)
      replace c0 := bel_cell g9 c0
      clear AM7 g9 SM
      go_wp2_with fail
      refine (W8.Over_nil (.pointer none) 3 _ (.inl rfl)).mono ?_; rintro e w10 ⟨rfl, rfl⟩
      go_wp2_with fail
      refine (A7.New_at (K := fun _ => False) w10 AM9.out.tab.i (fun _ e => e.elim)).mono ?_; rintro e w11 ⟨a, Ga, rfl, A11, g11, low11⟩
      have H11 := Lib.hid (A7.Has.start A11)
      have G11 := Lib.hid (bel_trans E.out.g (bel_trans AM9.out.bel g11))
      have L11 : Hid (∀ i, Ga i → w.heap.size ≤ i) := fun i hi => Nat.le_trans (bel_trans E.out.g AM9.out.bel).size (low11 i hi)
      clear A11 g11 low11 AM9 c0
      go_wp2_with fail
      refine (W8.Over_arg 1 (.inl (by decide)) H11.out).mono ?_; rintro e w12 ⟨rfl, H12⟩
      have G12 := Lib.hid (Turns.bel G11.out (wturns_of H12.turns) L11.out)
      clear H12 H11
      go_wp2_with fail
      go_ret
      exact ⟨rfl, G12.out⟩
end Go.Proofs.YtlmaikbnjdmhcaaGreatDoor.K6
