/- Layer 10: the document's End, Next. Layer 10: what the document's Next and Yield hand on. -/
import Derived.Test.YtiobgnelhiadbaaGreatDoorVSwapGF
namespace Go.Proofs.YtiobgnelhiadbaaGreatDoor.S10
open Go.RowKit W8 K6
open F3 (LAt LAtB place atL Ent entF)
set_option linter.unusedVariables false
/-- The cells of a world that lies in block x. -/
def C5 (W : World) (x : Nat) (n : Int) (vl vm : Value) (c v : Int) : Prop := W.cell? ⟨x, 0, none⟩ = some (.int .i64 n) ∧ W.cell? ⟨x, 1, none⟩ = some vl ∧ W.cell? ⟨x, 2, none⟩ = some vm ∧ W.cell? ⟨x, 3, none⟩ = some (.int .i64 c) ∧ W.cell? ⟨x, 4, none⟩ = some (.int .i64 v)
theorem row_c5 {W : World} {x : Nat} {n : Int} {vl vm : Value} {c v : Int} (h : RowD W x ⟨n, vl, vm, c, v⟩) : C5 W x n vl vm c v := h.all
theorem row_frz {W : World} {x : Nat} {q : DV} (h : RowD W x q) (i : Nat) : W.frozen? ⟨x, i, none⟩ = false := row_frozen h
theorem set5_c5 {V : World} {z x : Nat} {q q1 : DV} (hx : x ≠ z) (h : RowD V x q1) : RowD (set5 V z q) x q1 := set5_other hx h
theorem set5_do {V : World} {B z : Nat} {q q0 q1 : DV} {l : List Ent} {f : Nat → Int} (hz : RowD V z q0) (h : DO B V q1 l f) : DO B (set5 V z q) q1 l f :=
  ⟨set5_own hz (by decide) h.L, set5_own hz (by decide) h.M, h.bt, Nat.le_trans h.le (((((Below.refl 0 V).setCell (p := ⟨z, 0, none⟩) (Nat.zero_le _) _).setCell (p := ⟨z, 1, none⟩) (Nat.zero_le _) _).setCell (p := ⟨z, 2, none⟩) (Nat.zero_le _) _).setCell (p := ⟨z, 3, none⟩) (Nat.zero_le _) _ |>.setCell (p := ⟨z, 4, none⟩) (Nat.zero_le _) _).size⟩
set_option maxRecDepth 100000 in
set_option maxHeartbeats 4000000 in
theorem end_at {B : Nat} {w : World} {q : DV} {l : List Ent} {f : Nat → Int} (h : DO B w q l f) (T : Nat) (hT : T < 4) (hr : ldB f 128 4 = T) :
    Calls Tryz.prog 22 #[.agg (drow q)] w fun e w' => ∃ s, e = .returned (.agg (drow { q with vm := s })) ∧ DO B w' { q with vm := s } l (stB f (76 + 16 * T) 4 0) ∧ Below w.heap.size w w' := by
  obtain ⟨n, vl, vm, c, v⟩ := q
  obtain ⟨p, m, k, e⟩ := h.vl
  obtain rfl : vl = .slice p m k := e
  obtain ⟨pm, mk, e⟩ := h.vm
  obtain rfl : vm = .slice pm 8192 mk := e
  have H := Lib.hid h
  have CW : Hid (∀ W, Below w.heap.size w W → Calls Tryz.prog 97 #[.agg #[.int .i64 n, .slice p m k, .slice pm 8192 mk, .int .i64 c, .int .i64 v], .int .u32 128] W fun e w' => e = .returned (.int .u32 (T : Int)) ∧ Below W.heap.size W w') := fun W g => by
    have := word_at (h.bel g) 128 (by decide) (by decide)
    rw [hr] at this
    exact this
  obtain ⟨bT, hbT⟩ : ∃ bT : Nat, bT = 64 + 16 * T := ⟨_, rfl⟩
  obtain ⟨aT, haT⟩ : ∃ aT : Nat, aT = 76 + 16 * T := ⟨_, rfl⟩
  have CB : Hid (∀ W, Calls Tryz.prog 96 #[.int .u32 (T : Int)] W fun e w' => e = .returned (.int .u32 (bT : Int)) ∧ W = w') := fun W => by rw [hbT]; exact block_at T (by omega) W
  have w12 : IntKind.u32.wrap ((bT : Int) + 12) = (aT : Int) := by rw [IntWalk.u32_in _ (by omega)]; omega
  have CL : Hid (∀ W, Below w.heap.size w W → Calls Tryz.prog 95 #[.agg #[.int .i64 n, .slice p m k, .slice pm 8192 mk, .int .i64 c, .int .i64 v], .int .u32 (aT : Int), .int .u32 0] W fun e w' => ∃ ps ks, e = .returned (.agg #[.int .i64 n, .slice p m k, .slice ps 8192 ks, .int .i64 c, .int .i64 v]) ∧ DO B w' ⟨n, .slice p m k, .slice ps 8192 ks, c, v⟩ l (stB f aT 4 0) ∧ Below W.heap.size W w') := fun W g => by
    refine (lay_at (h.bel g) aT 0 ⟨by decide, by decide⟩ (by omega) (by omega)).mono ?_
    rintro e w' ⟨s, rfl, hd, g'⟩
    obtain ⟨ps, ks, e⟩ := hd.vm
    obtain rfl : s = .slice ps 8192 ks := e
    exact ⟨ps, ks, rfl, hd, g'⟩
  rw [← haT]
  clear h hr hbT haT
  go_enter Tryz.func22, Tryz.ntmps22
  go_upto_region 1 with (first
    | (refine d_box rfl _ rfl (some 1) rfl ⟨n, .slice p m k, .slice pm 8192 mk, c, v⟩ rfl ?_; intro V1 r1 b1 s1)
    | (refine d_alloc rfl (some 2) rfl (by kernel_rfl) ?_; intro V2 r2 b2 s2))
  have r3 := Lib.hid (r1.out.bel b2)
  have G3 := Lib.hid (bel_trans b1 b2)
  have N3 : Hid (w.heap.size < V1.heap.size) := s1
  clear r1 b1 s1 b2 s2
  generalize V1.heap.size = z at r2 N3 ⊢
  have GD : Below V2.heap.size V2 V2.drew := Below.drew (Below.refl _ _)
  have HD : Hid (∀ W, Below V2.heap.size V2 W → C5 W w.heap.size n (.slice p m k) (.slice pm 8192 mk) c v) := fun W g => row_c5 (r3.out.bel g)
  have DD := HD.out _ GD
  unfold C5 at DD
  go_region_held3 (fun W => W.cell? ⟨w.heap.size, 0, none⟩ = some (.int .i64 n) ∧ W.cell? ⟨w.heap.size, 1, none⟩ = some (.slice p m k) ∧ W.cell? ⟨w.heap.size, 2, none⟩ = some (.slice pm 8192 mk) ∧ W.cell? ⟨w.heap.size, 3, none⟩ = some (.int .i64 c) ∧ W.cell? ⟨w.heap.size, 4, none⟩ = some (.int .i64 v))
    (first
      | with_reducible exact DD
      | with_reducible exact DA
      | with_reducible exact DL
      | with_reducible exact DS)
    (first
      | (go_at_call 97; refine (CW.out _ (bel_trans G3.out GD)).mono ?_; rintro e WA ⟨rfl, ga⟩; have GA := bel_trans GD ga; have DA := HD.out _ GA; unfold C5 at DA; clear ga)
      | (go_at_call 96; refine (CB.out _).mono ?_; rintro e WB ⟨rfl, hb⟩; subst hb)
      | (go_at_call 95; refine (CL.out _ (bel_trans G3.out GA)).mono ?_; rintro e WL ⟨ps, ks, rfl, hd, gl⟩; have GL := bel_trans GA gl; have DL := HD.out _ GL; unfold C5 at DL; have ZL := r2.out.bel GL; obtain ⟨z0, z1, z2, z3, z4⟩ := ZL.all; have zf0 := row_frz ZL 0; have zf1 := row_frz ZL 1; have zf2 := row_frz ZL 2; have zf3 := row_frz ZL 3; have zf4 := row_frz ZL 4; have DS : C5 (set5 WL z ⟨n, .slice p m k, .slice ps 8192 ks, c, v⟩) w.heap.size n (.slice p m k) (.slice pm 8192 mk) c v := row_c5 (set5_c5 (Nat.ne_of_lt N3.out) (r3.out.bel GL)); unfold C5 set5 at DS; clear gl))
  all_goals
    have R := set5_row (q := (⟨n, .slice p m k, .slice ps 8192 ks, c, v⟩ : DV)) ZL
    clear DD DA DL DS
    go_wp2_with fail
    change bodyPost _ _ _ _ _ (set5 WL z (⟨n, .slice p m k, .slice ps 8192 ks, c, v⟩ : DV))
    refine d_ret1 rfl rfl R rfl ?_
    exact ⟨_, rfl, set5_do ZL hd, set5_bel (bel_trans G3.out GL) (Nat.le_of_lt N3.out)⟩
end Go.Proofs.YtiobgnelhiadbaaGreatDoor.S10
namespace Go.Proofs.YtiobgnelhiadbaaGreatDoor.S10
open Go.RowKit W8 K6
open F3 (LAt LAtB place atL Ent entF)
set_option linter.unusedVariables false
set_option maxRecDepth 100000 in
theorem d_results3 {fn : Func} {tmps : Array Value} {w : World} {z : Nat} {p u t : Tmp} {q : DV} (h : fn.results = #[.cell p 59, .tmp u, .tmp t]) (hp : tmps.getD p undef = .pointer (some ⟨z, 0, none⟩)) (hz : RowD w z q) : (results fn tmps).run Tryz.prog w = .ok (.tuple #[.agg (drow q), tmps.getD u undef, tmps.getD t undef]) w := by
  have hp' : tmps[p]?.getD undef = .pointer (some ⟨z, 0, none⟩) := by simpa using hp
  simp [results, h, hp', asAddr, run_loadVar_row w z 59 59 (drow q) (0, 0) _ hz drow_under rfl (drow_info _)]
set_option maxRecDepth 100000 in
theorem d_ret3 {fn : Func} {R : Ending → World → Prop} {a : Act} {w : World} {z : Nat} {p u t : Tmp} {q : DV} (h : fn.results = #[.cell p 59, .tmp u, .tmp t]) (hp : a.tmps.getD p undef = .pointer (some ⟨z, 0, none⟩)) (hz : RowD w z q) (hd : a.defers = []) (hR : R (.returned (.tuple #[.agg (drow q), a.tmps.getD u undef, a.tmps.getD t undef])) w) : bodyPost Tryz.prog fn R .ret a w :=
  bodyPost_ret (d_results3 h hp hz) hd hR
/-- The first two cells of a world that lies in block x are written. -/
theorem set2_row {V : World} {x : Nat} {n : Int} {vl vm vl' : Value} {c v : Int} (h : RowD V x ⟨n, vl, vm, c, v⟩) : RowD ((V.setCell ⟨x, 0, none⟩ (.int .i64 n)).setCell ⟨x, 1, none⟩ vl') x ⟨n, vl', vm, c, v⟩ :=
  heap_setCell_same _ x 1 _ _ vl' (heap_setCell_same V x 0 _ _ (.int .i64 n) h)
theorem set2_other {V : World} {x y : Nat} {a b : Value} {o : Obj} (hx : y ≠ x) (h : V.heap[y]? = some o) : ((V.setCell ⟨x, 0, none⟩ a).setCell ⟨x, 1, none⟩ b).heap[y]? = some o := by
  rw [heap_setCell_other _ _ _ _ (fun e => hx e), heap_setCell_other _ _ _ _ (fun e => hx e)]
  exact h
theorem set2_bel {a V : World} {z : Nat} {u v : Value} (h : Below a.heap.size a V) (hz : a.heap.size ≤ z) : Below a.heap.size a ((V.setCell ⟨z, 0, none⟩ u).setCell ⟨z, 1, none⟩ v) :=
  (h.setCell (p := ⟨z, 0, none⟩) hz _).setCell (p := ⟨z, 1, none⟩) hz _
theorem set2_own {V : World} {z B m n : Nat} {q0 : DV} {u v : Value} {t : TypeId} {s : Value} {xs : List Value} (hz : RowD V z q0) (ht : 59 ≠ t) (h : V.ownsRow B t m s n xs) : ((V.setCell ⟨z, 0, none⟩ u).setCell ⟨z, 1, none⟩ v).ownsRow B t m s n xs := by
  obtain ⟨h0, h1 | ⟨g, cap, cur, e, hB, hg, r⟩⟩ := h
  · exact ⟨h0, .inl h1⟩
  · refine ⟨h0, .inr ⟨g, cap, cur, e, hB, set2_other (fun e => ?_) hg, r⟩⟩
    subst e
    unfold RowD at hz
    rw [hg] at hz
    injection hz with hz
    injection hz with _ hz _
    exact ht hz.symm
theorem own_first {w : World} {B n : Nat} {v : Value} {xs : List Value} (h : w.ownsRow B 22 1 v n xs) (hn : 0 < n) : ∃ g c, v = .slice (some ⟨g, 0, none⟩) n c ∧ n ≤ c ∧ ∀ j u, xs[j]? = some u → w.cell? ⟨g, j, none⟩ = some u := by
  obtain ⟨hl, ⟨_, h0⟩ | ⟨g, cap, cur, rfl, hB, hg, q1, q2, q3, q4⟩⟩ := h
  · omega
  · refine ⟨g, cap, rfl, q1, fun j u hj => row_cell hg ?_⟩
    have hjl := (List.getElem?_eq_some_iff.1 hj).1
    rw [← q4, List.getElem?_take_of_lt (by omega)] at hj
    simpa using hj
theorem own_typ_keep {w w' : World} {x B m n : Nat} {q : DV} {t : TypeId} {s : Value} {xs : List Value} (hz : RowD w x q) (g : w.grownBy w' (some x)) (h : w.ownsRow B t m s n xs) (ht : 59 ≠ t) : w'.ownsRow B t m s n xs := by
  obtain ⟨h0, h1 | ⟨b, cap, cur, e, hB, hg, r⟩⟩ := h
  · exact ⟨h0, .inl h1⟩
  · refine ⟨h0, .inr ⟨b, cap, cur, e, hB, only_heap g (fun e => ?_) hg, r⟩⟩
    subst e
    unfold RowD at hz
    rw [hg] at hz
    injection hz with hz
    injection hz with _ hz _
    exact ht hz.symm
/-- What the document hands on of a world. -/
structure NX (B : Nat) (w wx : World) (x z : Nat) (n : Int) (vl vm : Value) (c v : Int) (l : List Ent) (f : Nat → Int) : Prop where
  X : RowD wx x ⟨n, vl, vm, c, v⟩
  Z : RowD wx z dzero
  D : DO B wx ⟨n, vl, vm, c, v⟩ l f
  g : Below w.heap.size w wx
theorem NX.bel {B : Nat} {w wx wy : World} {x z : Nat} {n : Int} {vl vm : Value} {c v : Int} {l : List Ent} {f : Nat → Int} (h : NX B w wx x z n vl vm c v l f) (k : Below wx.heap.size wx wy) : NX B w wy x z n vl vm c v l f := ⟨h.X.bel k, h.Z.bel k, h.D.bel k, bel_trans h.g k⟩
theorem NX.reg {B : Nat} {w wx wy : World} {x z : Nat} {n : Int} {vl vm vl' : Value} {c v : Int} {l l' : List Ent} {f : Nat → Int} (h : NX B w wx x z n vl vm c v l f) (k : Below wx.heap.size wx wy) (hl : LAtB wx.heap.size wy vl' l') (zx : z ≠ x) (hx : w.heap.size ≤ x) :
    NX B w ((wy.setCell ⟨x, 0, none⟩ (.int .i64 n)).setCell ⟨x, 1, none⟩ vl') x z n vl' vm c v l' f := by
  have hy := h.bel k
  exact ⟨set2_row hy.X, set2_other zx hy.Z, ⟨set2_own hy.X (by decide) (own_less hl h.D.le), set2_own hy.X (by decide) hy.D.M, h.D.bt, Nat.le_trans hy.D.le (((Below.refl 0 wy).setCell (p := ⟨x, 0, none⟩) (Nat.zero_le _) _).setCell (p := ⟨x, 1, none⟩) (Nat.zero_le _) _).size⟩, set2_bel hy.g hx⟩
theorem NX.vset {B : Nat} {w wx wy : World} {x z : Nat} {n : Int} {vl vm : Value} {c v v' : Int} {l : List Ent} {f : Nat → Int} (h : NX B w wx x z n vl vm c v l f) (r : RowD wy x ⟨n, vl, vm, c, v'⟩) (g : wx.grownBy wy (some x)) (zx : z ≠ x) (hx : w.heap.size ≤ x) : NX B w wy x z n vl vm c v' l f :=
  ⟨r, h.Z.only g zx, ⟨own_typ_keep h.X g h.D.L (by decide), own_typ_keep h.X g h.D.M (by decide), h.D.bt, Nat.le_trans h.D.le g.size⟩, only_bel h.g g hx⟩
theorem NX.away {B : Nat} {w wx wy : World} {x z y : Nat} {n : Int} {vl vm : Value} {c v : Int} {l : List Ent} {f : Nat → Int} {q : DV} (h : NX B w wx x z n vl vm c v l f) (hy : RowD wx y q) (g : wx.grownBy wy (some y)) (yx : x ≠ y) (yz : z ≠ y) (yw : w.heap.size ≤ y) : NX B w wy x z n vl vm c v l f :=
  ⟨h.X.only g yx, h.Z.only g yz, ⟨own_typ_keep hy g h.D.L (by decide), own_typ_keep hy g h.D.M (by decide), h.D.bt, Nat.le_trans h.D.le g.size⟩, only_bel h.g g yw⟩
theorem atL_last {n c : Int} {l : List Ent} {u : Int} (h0 : 0 ≤ c) : atL (l ++ [(place n c 0 14, u)]) (place n c 0 14) = u := by
  have hp : ¬ ((place n c 0 14).1 = 0 ∧ (place n c 0 14).2.2 = 0) := fun h => by
    have := h.2
    unfold place at this
    simp at this
  unfold atL
  rw [if_neg hp, F3.lastW_snoc, if_pos rfl]
end Go.Proofs.YtiobgnelhiadbaaGreatDoor.S10
