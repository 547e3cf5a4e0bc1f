/- Package asm as it has landed: Copy. -/
import Derived.Test.YtmpagjijjahohaaGreatDoorAsmG
import Derived.Shelf.SlMaps.Clone
import Derived.Deep.RegionWith
namespace Go.Proofs.YtmpagjijjahohaaGreatDoor.A7
open Go.RowKit Go.Maps
set_option linter.unusedVariables false
section
variable {w W : World} {b mp : Nat} {wv jv : Value} {vs : List Value} {G K : Nat → Prop} {q : AS}
theorem eq_nilC (a : Option Addr) (n c n' c' : Nat) (W : World) : (binOp .eql 234 (.slice a n c) (.slice none n' c')).run Tryz.prog W = .ok (.bool a.isNone) W := Lib.run_eql_slice_nil W _ _ a n c n' c' comp_under
set_option maxRecDepth 10000 in
theorem cloneC_at {s : Value} {n : Nat} {xs : List Value} (own : w.ownsRow 0 238 1 s n xs) (hx : ∀ u ∈ xs, u.oneCell' = true) (hn : n ≤ 100000) :
    Calls Tryz.prog 315 #[s] w fun e w' => ∃ v, e = .returned v ∧ w'.ownsRow w.heap.size 238 1 v n xs ∧ Below w.heap.size w w' := by
  obtain ⟨i0, hi, hz0, hz1, hz2⟩ := info_parts comp_parts
  have hq := eq_nilC
  have hlen : xs.length = n := by have := own.1; simpa using this
  rcases own_of own with ⟨rfl, rfl⟩ | ⟨g, c, rfl⟩
  · obtain rfl : xs = [] := List.eq_nil_of_length_eq_zero hlen
    clear own
    go_enter Tryz.func315, Tryz.ntmps315
    go_wp2
    go_ret
    exact ⟨_, rfl, World.ownsRow_nil _ _ _ _, Below.refl _ _⟩
  · have hnews : Hid (∀ (j : Nat) (u : Value), xs[j]? = some u → (w.alloc (.cells #[] 238)).cell? ((⟨g, 0, none⟩ : Addr).add j) = some u) := fun j u hj => by
      rw [add_off]
      exact bel_cell ((Below.refl _ _).alloc (Nat.le_refl _) _) (own_cell own j u hj)
    have HL := Lib.hid hlen
    have HX := Lib.hid hx
    clear own hlen hx
    go_enter Tryz.func315, Tryz.ntmps315
    go_wp2_with (at_builtin; refine wpList_append_own _ rfl _ _ 234 rfl w.heap.size 238 i0 .nilFunc 1 8 comp_under hi hz0 hz1 hz2 rfl (by decide) _ _ _ rfl (World.ownsRow_made w #[] 0 (Nat.le_refl _) (Nat.zero_le _) (by simp)) ⟨g, 0, none⟩ n c xs rfl ?qc1 ?qc2 ?qc3 ?qc4 ?qc5 ?qc6 ?_)
    case qc1 => rw [HL.out]; omega
    case qc2 => exact hnews.out
    case qc3 => exact HX.out
    case qc4 => unfold maxLen; omega
    case qc5 => omega
    case qc6 => simp
    intro v' w1 hown hgrow hnil
    have X : Hid (w1.ownsRow w.heap.size 238 1 v' n xs ∧ Below w.heap.size w w1) := ⟨by simpa using hown, ((Below.refl _ w).alloc (Nat.le_refl _) _).grown hgrow (by simp) (by intro k hk; simp [Value.ownBlock] at hk; omega)⟩
    clear hown hgrow hnil
    go_wp2
    go_ret
    exact ⟨_, rfl, X.out.1, X.out.2⟩
set_option maxHeartbeats 1000000 in
set_option maxRecDepth 20000 in
theorem cloneM_at {r : Nat} {es : Array MapEntry} {clock : Nat} (hb : w.heap[r]? = some (.map es clock)) :
    Calls Tryz.prog 314 #[.map (some r)] w fun e w' => e = .returned (.map (some w.heap.size)) ∧ w' = w.alloc (.map es clock) := by
  have hq := fun W => run_eql_map_nil_sl (P := Tryz.prog) W 233 _ _ (some r) Tryz.underlying233
  go_enter Tryz.func314, Tryz.ntmps314
  go_wp2
  rw [run_callFunc_extern Tryz.func368 (by kernel_rfl) (by kernel_rfl) (by kernel_rfl) (e := Extern.MapsClone.clone) (by kernel_rfl), run_maps_clone_sl w 233 hb]
  simp only [Result.andThen]
  rw [Oper.upon_value]
  go_wp2
  rw [run_typeAssert_map_sl _ 233 _ _ _ _ Tryz.underlying233]
  simp only [Result.andThen]
  rw [Oper.upon_value]
  go_wp2
  go_ret
  exact ⟨rfl, rfl⟩
/-- What has been copied of a list. -/
structure SC (w W : World) (q : AS) (vs : List Value) (o1 : Option Value) (o2 : Option Nat) (o3 : Option Value) : Prop where
  g : Below w.heap.size w W
  c1 : ∀ v, o1 = some v → W.ownsRow w.heap.size 32 1 v q.n (bsL .u32 q.ws q.n)
  c2 : ∀ m, o2 = some m → w.heap.size ≤ m ∧ W.ownsMap Tryz.prog 9 (plainElem Tryz.prog 3) m q.ms.length (mD q.ms)
  c3 : ∀ v, o3 = some v → W.ownsRow w.heap.size 238 1 v q.js.length vs
theorem own_up {B B' : Nat} {t : TypeId} {n : Nat} {s : Value} {xs : List Value} (h : w.ownsRow B t 1 s n xs) (hB : B' ≤ B) : w.ownsRow B' t 1 s n xs := by
  obtain ⟨h0, h | ⟨g, c, cur, e, hb, hr⟩⟩ := h
  · exact ⟨h0, .inl h⟩
  · exact ⟨h0, .inr ⟨g, c, cur, e, Nat.le_trans hB hb, hr⟩⟩
theorem own_belW {W' : World} {B : Nat} {t : TypeId} {n : Nat} {s : Value} {xs : List Value} (h : W.ownsRow B t 1 s n xs) (k : Below W.heap.size W W') : W'.ownsRow B t 1 s n xs :=
  own_same h fun j hj => k.block j (h.lt j hj).2
theorem SC.more {W' : World} {o1 : Option Value} {o2 : Option Nat} {o3 : Option Value} (h : SC w W q vs o1 o2 o3) (k : Below W.heap.size W W') : SC w W' q vs o1 o2 o3 :=
  ⟨bel_trans h.g k, fun v e => own_belW (h.c1 v e) k, fun m e => ⟨(h.c2 m e).1, map_same (h.c2 m e).2 (k.block m (h.c2 m e).2.lt)⟩, fun v e => own_belW (h.c3 v e) k⟩
theorem SC.cells {o1 : Option Value} {o2 : Option Nat} {o3 : Option Value} (h : SC w W q vs o1 o2 o3) (P : AsmP w b mp wv jv vs G K q) : W.cell? ⟨b, 1, none⟩ = some wv ∧ W.cell? ⟨b, 2, none⟩ = some (.map (some mp)) ∧ W.cell? ⟨b, 3, none⟩ = some jv :=
  ⟨(P.bel h.g).cells.2.1, (P.bel h.g).cells.2.2.1, (P.bel h.g).cells.2.2.2⟩
theorem SC.one {o1 : Option Value} {o2 : Option Nat} {o3 : Option Value} (h : SC w W q vs o1 o2 o3) (P : AsmP w b mp wv jv vs G K q) :
    Calls Tryz.prog 37 #[wv] W fun e W' => ∃ v, e = .returned v ∧ SC w W' q vs (some v) o2 o3 := by
  refine (cloneW_at (P.bel h.g).words P.ok.n).mono ?_
  rintro e W' ⟨v, rfl, O, k⟩
  have m := h.more k
  exact ⟨v, rfl, m.g, fun u e => by cases e; exact own_up O h.g.size, m.c2, m.c3⟩
theorem SC.two {o1 : Option Value} {o2 : Option Nat} {o3 : Option Value} (h : SC w W q vs o1 o2 o3) (P : AsmP w b mp wv jv vs G K q) :
    Calls Tryz.prog 314 #[.map (some mp)] W fun e W' => ∃ m, e = .returned (.map (some m)) ∧ SC w W' q vs o1 (some m) o3 := by
  obtain ⟨es, clock, hb, F⟩ := (P.bel h.g).marks
  refine (cloneM_at hb).mono ?_
  rintro e W' ⟨rfl, rfl⟩
  have m := h.more ((Below.refl W.heap.size W).alloc (Nat.le_refl _) (.map es clock))
  exact ⟨_, rfl, m.g, m.c1, fun u e => by cases e; exact ⟨h.g.size, es, clock, heap_alloc_last _ _, F⟩, m.c3⟩
theorem SC.three {o1 : Option Value} {o2 : Option Nat} {o3 : Option Value} (h : SC w W q vs o1 o2 o3) (P : AsmP w b mp wv jv vs G K q) (hx : ∀ u ∈ vs, u.oneCell' = true) :
    Calls Tryz.prog 315 #[jv] W fun e W' => ∃ v, e = .returned v ∧ SC w W' q vs o1 o2 (some v) := by
  refine (cloneC_at (P.bel h.g).jumps hx (Nat.le_trans P.ok.jl P.ok.n)).mono ?_
  rintro e W' ⟨v, rfl, O, k⟩
  have m := h.more k
  exact ⟨v, rfl, m.g, m.c1, m.c2, fun u e => by cases e; exact own_up O h.g.size⟩
theorem vs_one (P : AsmP w b mp wv jv vs G K q) : ∀ u ∈ vs, u.oneCell' = true := by
  intro u hu
  obtain ⟨i, hi, rfl⟩ := List.mem_iff_getElem.1 hu
  have hl : vs.length = q.js.length := by have := P.jumps.1; simpa using this
  obtain ⟨bn, bx, ba, e, _⟩ := P.each i _ _ (List.getElem?_eq_getElem hi) (List.getElem?_eq_getElem (by omega))
  rw [e]; rfl
theorem SC.done {v1 v3 : Value} {m1 : Nat} (P : AsmP w b mp wv jv vs G K q) (h : SC w W q vs (some v1) (some m1) (some v3)) {W' : World} (hb : W'.heap[W.heap.size]? = some (.cells #[.pointer (some ⟨W.heap.size, 0, none⟩), v1, .map (some m1), v3] 236 (0, 0))) (k : Below W.heap.size W W') :
    ∃ G', AsmB W' W.heap.size G' (fun i => K i ∨ G' i) q ∧ Below w.heap.size w W' ∧ ∀ i, G' i → w.heap.size ≤ i := by
  have m := h.more k
  have O1 := m.c1 _ rfl
  have O2 := m.c2 _ rfl
  have O3 := m.c3 _ rfl
  have X := made_list (w := w) (K := K) hb (own_up O1 (Nat.zero_le _)) O2.2 (own_up O3 (Nat.zero_le _)) (fun i v j hv hj => (P.each i v j hv hj).turns (H := fun _ => False) (Turns.of_bel m.g) (fun _ e => e.elim) (fun _ e => e)) P.klt h.g.size O2.1 (fun j hj => (O1.lt j hj).1) (fun j hj => (O3.lt j hj).1) P.tab m.g P.ok
  exact ⟨_, X.1.toB, m.g, X.2⟩
set_option maxHeartbeats 4000000 in
theorem Copy_at (h : AsmB w b G K q) :
    Calls Tryz.prog 241 #[.pointer (some ⟨b, 0, none⟩)] w fun e w' => ∃ c G', e = .returned (.pointer (some ⟨c, 0, none⟩)) ∧ AsmB w' c G' (fun i => K i ∨ G' i) q ∧ Below w.heap.size w w' ∧ ∀ i, G' i → w.heap.size ≤ i := by
  obtain ⟨mp, wv, jv, vs, h⟩ := h
  have P := Lib.hid h
  have HX := Lib.hid (vs_one h)
  have S0 : SC w w.drew q vs none none none := ⟨(Below.refl _ _).drew, fun v e => (by cases e), fun v e => (by cases e), fun v e => (by cases e)⟩
  obtain ⟨k0, k1, k2, k3⟩ := h.cells
  obtain ⟨wp, wc, rfl⟩ := h.wform
  obtain ⟨jp, jc, rfl⟩ := h.jform
  clear h
  go_enter Tryz.func241, Tryz.ntmps241
  go_wp2_with fail
  refine (isObject_yes _ _ _ _ P.out.box).mono ?_; rintro e w1 ⟨rfl, rfl⟩
  go_upto_region 3 with (fail)
  go_region_with (first
    | (go_at_call 37; refine (SC.one (by assumption) P.out).mono ?_; rintro e V ⟨v1, rfl, S⟩; obtain ⟨p1, e1, rfl⟩ := lenOf_own (S.c1 _ rfl); obtain ⟨k1, k2, k3⟩ := S.cells P.out)
    | (go_at_call 314; refine (SC.two (by assumption) P.out).mono ?_; rintro e V ⟨m1, rfl, S⟩; obtain ⟨k1, k2, k3⟩ := S.cells P.out)
    | (go_at_call 315; refine (SC.three (by assumption) P.out HX.out).mono ?_; rintro e V ⟨v3, rfl, S⟩; obtain ⟨p3, e3, rfl⟩ := lenOf_own (S.c3 _ rfl); obtain ⟨k1, k2, k3⟩ := S.cells P.out)
    | (go_at_call 227; refine (object_at _ _ _ _).mono ?_; rintro e V' ⟨rfl, hb, k⟩; have D := SC.done P.out S hb k; clear hb k))
  all_goals
    go_wp2_with fail
    go_ret
    obtain ⟨G', h1, h2, h3⟩ := D
    exact ⟨_, G', rfl, h1, h2, h3⟩
end
end Go.Proofs.YtmpagjijjahohaaGreatDoor.A7
