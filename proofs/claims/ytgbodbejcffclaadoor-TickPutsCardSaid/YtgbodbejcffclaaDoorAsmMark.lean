/- Package asm as it has landed: Mark; what a list keeps when one of its blocks turns. -/
import Derived.Test.YtgbodbejcffclaaDoorAsmSmall
import Derived.StillTailTactics
import Derived.WalkArith
namespace Go.Proofs.YtgbodbejcffclaaDoor.A7
open Go.RowKit Go.Maps
set_option linter.unusedVariables false
section
variable {w w' : World} {b mp : Nat} {wv jv : Value} {vs : List Value} {G K : Nat → Prop} {q : AS}
theorem only_own {s : Value} {B : Nat} {t : TypeId} {n : Nat} {xs : List Value} {x : Nat} (h : w.ownsRow B t 1 s n xs) (k : w.grownBy w' (some x)) (hx : ∀ j, s.ownBlock = some j → j ≠ x) : w'.ownsRow B t 1 s n xs :=
  own_same h fun j hj => k.block j (h.lt j hj).2 (fun e => hx j hj (by injection e))
theorem only_map {H : Type} {kt : TypeId} {R : Value → Option (DataW H × List MemPlace)} {x y n : Nat} {D : DataW H} (h : w.ownsMap Tryd.prog kt R x n D) (k : w.grownBy w' (some y)) (hx : x ≠ y) : w'.ownsMap Tryd.prog kt R x n D :=
  map_same h (k.block x h.lt (fun e => hx (by injection e)))
theorem AsmP.eachOnly (h : AsmP w b mp wv jv vs G K q) {x : Nat} (k : w.grownBy w' (some x)) (hx : G x) : ∀ (i : Nat) (v : Value) (j : AJ), vs[i]? = some v → q.js[i]? = some j → JAt w' K v j :=
  fun i v j hv hj => (h.each i v j hv hj).turns (H := fun i => i = x) (Turns.of_only k rfl) (fun i e => .inl (h.sub _ (e ▸ hx))) (fun _ e => .inl e)
theorem AsmP.ltOnly (h : AsmP w b mp wv jv vs G K q) {x : Nat} (k : w.grownBy w' (some x)) : ∀ i, K i → i < w'.heap.size := fun i hi => Nat.lt_of_lt_of_le (h.klt i hi) k.size
theorem AsmP.tabOnly (h : AsmP w b mp wv jv vs G K q) {x : Nat} (k : w.grownBy w' (some x)) (hx : G x) : I2.Tab w' := tab_turns h.tab (Turns.of_only (G := G) k hx) h.far
theorem AsmP.marked (h : AsmP w b mp wv jv vs G K q) (s : ByteArray) (hm : q.ms.length < 100000) (k : w.grownBy w' (some mp)) (own : w'.ownsMap Tryd.prog 9 (plainElem Tryd.prog 3) mp (q.ms.length + 1) ((mD q.ms).put (key s) (.lit (.int .i64 q.n)))) : AsmP w' b mp wv jv vs G K (q.mark s) :=
  { h with
    box := only_heap k h.bm h.box
    words := only_own h.words k fun j hj => (h.wb hj).2.1
    marks := by
      have e : (q.mark s).ms = q.ms ++ [(s, q.n)] := rfl
      rw [e, mD_snoc, List.length_append]; exact own
    jumps := only_own h.jumps k fun j hj => (h.jb hj).2.1
    each := h.eachOnly k h.gm
    klt := h.ltOnly k
    tab := h.tabOnly k h.gm
    ok :=
      { n := h.ok.n
        ms := by show (q.ms ++ [(s, q.n)]).length ≤ 100000; rw [List.length_append]; exact hm
        at_ := fun p hp => by
          have hp' : p ∈ q.ms ++ [(s, q.n)] := hp
          rcases List.mem_append.1 hp' with hp' | hp'
          · exact h.ok.at_ p hp'
          · simp at hp'; subst hp'; exact Nat.le_refl _
        js := h.ok.js
        jl := h.ok.jl } }
theorem Mark_state (s : ByteArray) (hs : s.size ≤ maxLen) (h : AsmB w b G K q) (hl : (look q.ms s).isSome = true) : Calls Tryd.prog 13 #[.pointer (some ⟨b, 0, none⟩), .string s] w fun e w' => e = .returned (.int .i64 9) ∧ w' = w := by
  obtain ⟨mp, wv, jv, vs, h⟩ := h
  obtain ⟨k0, k1, k2, k3⟩ := h.cells
  have B := Lib.hid h.box
  have M := Lib.hid h.marks
  have hkey := key_of s hs
  have hhas := mD_has q.ms s
  rw [hl] at hhas
  generalize mD q.ms = D at *
  clear h hl
  go_enter Tryd.func13, Tryd.ntmps13
  go_wp2_with fail
  refine (isObject_yes _ _ _ _ B.out).mono ?_; rintro e w1 ⟨rfl, rfl⟩
  go_wp2_with (at_lookup; refine wpList_lookup_own_ok_int _ rfl _ _ 40 rfl 9 3 .i64 string_keys Tryd.underlying40 Tryd.underlying3 (zero_int _) mp _ _ rfl M.out _ _ rfl hkey ?_; intro c hc _; rw [hhas])
  go_ret
  exact ⟨rfl, rfl⟩
set_option maxRecDepth 100000 in
theorem Mark_yes (s : ByteArray) (hs : s.size ≤ maxLen) (h : AsmB w b G K q) (hm : q.ms.length < 100000) (hl : look q.ms s = none) : Calls Tryd.prog 13 #[.pointer (some ⟨b, 0, none⟩), .string s] w fun e w' => e = .returned (.int .i64 0) ∧ Left w b G K (q.mark s) w' := by
  obtain ⟨mp, wv, jv, vs, h⟩ := h
  obtain ⟨k0, k1, k2, k3⟩ := h.cells
  obtain ⟨p, c, rfl⟩ := h.wform
  have B := Lib.hid h.box
  have hkey := key_of s hs
  have hhas := mD_has q.ms s
  rw [hl] at hhas
  have gd : Below w.heap.size w w.drew := (Below.refl _ _).drew
  have M := Lib.hid h.marks
  have M2 := Lib.hid (h.bel gd).marks
  have hwf : (Lit.int .i64 (q.n : Int)).wf = true := WalkArith.wf_i64 (by have := h.ok.n; omega)
  have hml : q.ms.length < maxLen := by unfold maxLen; omega
  have P := Lib.hid (h.bel gd)
  have GD := Lib.hid gd
  have HM := Lib.hid hm
  clear h hl gd hm
  go_enter Tryd.func13, Tryd.ntmps13
  go_wp2_with fail
  refine (isObject_yes _ _ _ _ B.out).mono ?_; rintro e w1 ⟨rfl, rfl⟩
  go_wp2_with (at_lookup; refine wpList_lookup_own_ok_int _ rfl _ _ 40 rfl 9 3 .i64 string_keys Tryd.underlying40 Tryd.underlying3 (zero_int _) mp _ _ rfl M.out _ _ rfl hkey ?_; intro c hc _; rw [hhas])
  go_still_tail 10, (by kernel_rfl)
  change wpList _ _ _ _ _ w1.drew
  have X : Hid (∀ W', W'.ownsMap Tryd.prog 9 (plainElem Tryd.prog 3) mp (q.ms.length + 1) ((mD q.ms).put (key s) (.lit (.int .i64 q.n))) → w1.drew.grownBy W' (some mp) → Left w1 b G K (q.mark s) W') := fun W' own gr =>
    ⟨G, (P.out.marked s HM.out gr own).widen.toB, (Turns.of_bel GD.out).trans (G' := G) (Turns.of_only gr P.out.gm) (fun _ e => .inl e), fun _ e => .inl e⟩
  clear P GD k0 k1 k2 k3 B M
  generalize w1.drew = V at *
  go_wp2_with (at_mapUpdate; refine wpList_mapUpdate_own _ rfl _ _ _ 40 rfl 9 3 string_keys Tryd.underlying40 (plainElem Tryd.prog 3) mp _ _ rfl M2.out hml _ _ _ rfl rfl hkey _ [] (plainElem_int Tryd.underlying3 hwf) ?_; intro w4 own4 g4; have L := Lib.hid (X.out w4 own4 g4); clear own4 g4 X M2)
  go_ret
  exact ⟨rfl, L.out⟩
end
end Go.Proofs.YtgbodbejcffclaaDoor.A7
