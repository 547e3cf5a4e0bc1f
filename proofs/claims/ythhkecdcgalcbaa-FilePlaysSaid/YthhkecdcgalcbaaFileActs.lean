/- What a row's condition gives the walk of FilePlays: the acts that come in, cell by cell. -/
import Derived.Test.YthhkecdcgalcbaaFileOpen
import Derived.Test.YthhkecdcgalcbaaFilePlays
import Derived.Deep.Slices
import Derived.WideKeyArgs
namespace Go.Proofs.Ythhkecdcgalcbaa
open Go.ChangeShapes Go.WideShapes Go.ChangeAt Go.WideMaps Go.WideElems Go.RowKit Go.Deep
theorem wf_u32' {n : Int} (h : (Lit.int .u32 n).wf = true) : 0 ≤ n ∧ n < 4294967296 := by
  simp only [Lit.wf, Bool.and_eq_true, decide_eq_true_eq] at h
  simp [IntKind.min, IntKind.max, IntKind.bits, IntKind.signed] at h
  omega
theorem list5 {α : Type} {l : List α} (h : l.length = 5) : ∃ a b c d e, l = [a, b, c, d, e] := by
  match l, h with
  | [a, b, c, d, e], _ => exact ⟨a, b, c, d, e, rfl⟩
theorem open_acts {H : Type} {enc : TypeId × Value → H} {w : World} {r : Reach} {b0 : Nat} {v : Value} {d : DataW H} {q : List MemPlace}
    (hv : Value.okWide Try.prog w r b0 22 v) (h : DataW.Trod enc Try.prog w 0 (fun _ => true) true 22 v d q) :
    (∃ sp cap, v = .slice sp 0 cap) ∨ ∃ s o len cap, v = .slice (some ⟨s, o, none⟩) len cap ∧ ActsAt w s o len := by
  obtain ⟨a, len, cap, rfl⟩ := okWide_slice Try.underlying22 hv
  obtain ⟨fuel, hf⟩ := h
  have hcel : Try.prog.cellsOf 36 = 5 := by kernel_rfl
  rcases open_slice Try.underlying22 hf with ⟨h0, _⟩ | ⟨a', len', cap', m, n, D, Pl, hcs, _, hl, _, hm, _, hi⟩
  · have h0' : (Value.slice a len cap).cells.toList = [Value.slice a len cap] := rfl
    rw [h0'] at h0
    cases h0
    exact .inl ⟨none, 0, rfl⟩
  · have h0' : (Value.slice a len cap).cells.toList = [Value.slice a len cap] := rfl
    rw [h0'] at hcs
    cases hcs
    by_cases hz : len = 0
    · subst hz; exact .inl ⟨_, _, rfl⟩
    · simp only [if_true] at hm
      subst hm
      rw [hcel] at hi
      obtain ⟨cs0, hc0, _⟩ := hi 0 (by omega)
      obtain ⟨_, hn0, hat0⟩ := World.cells?_some hc0
      obtain ⟨ab, ao, asp⟩ := a'
      have hspot : asp = none := by
        have := hat0 0 (by omega)
        obtain ⟨c0, c1, c2, c3, c4, rfl⟩ := list5 hn0
        cases asp with
        | none => rfl
        | some x =>
          exfalso
          simp only [Addr.add, World.cell?] at this
          split at this <;> simp at this
      subst hspot
      refine .inr ⟨ab, ao, len, _, rfl, fun i hlt => ?_⟩
      obtain ⟨cs, hc, ht⟩ := hi i (by omega)
      obtain ⟨_, hn, hat⟩ := World.cells?_some hc
      obtain ⟨c0, c1, c2, c3, c4, rfl⟩ := list5 hn
      obtain ⟨p, x, k, r', v4, rfl, rfl, rfl, rfl, rfl, _, _, _, _, g4⟩ := trod_act ht
      have ad : ∀ j, ((⟨ab, ao, none⟩ : Addr).add (i * 5)).add j = ⟨ab, ao + i * 5 + j, none⟩ := fun j => by rw [add_at, add_at]
      have e0 := hat 0 (by omega)
      have e1 := hat 1 (by omega)
      have e2 := hat 2 (by omega)
      have e3 := hat 3 (by omega)
      have e4 := hat 4 (by omega)
      rw [ad] at e0 e1 e2 e3 e4
      exact ⟨p, x, k, r', v4, e0, e1, e2, e3, e4, wf_u32' g4⟩
theorem filePlays_walk {H : Type} {enc : TypeId × Value → H} {w : World} {r : Reach} {b0 : Nat} {v : Value} {d : DataW H} {q : List MemPlace} (n : Int)
    (hv : Value.okWide Try.prog w r b0 22 v) (h : DataW.Trod enc Try.prog w 0 (fun _ => true) true 22 v d q) :
    Calls Try.prog 3 #[.int .i64 n, v] w fun e w' => e = .returned (.bool true) ∧ Below w.heap.size w w' := by
  obtain ⟨a, len, cap, rfl⟩ := okWide_slice Try.underlying22 hv
  by_cases h1 : n < 2 ∨ 32 < n
  · exact filePlays_bad n a len cap w h1
  by_cases h2 : 6 < n
  · exact filePlays_wide n a len cap w h2 (by omega)
  · rcases open_acts hv h with ⟨sp, c, e⟩ | ⟨s, o, l, c, e, hA⟩
    · cases e; exact filePlays_none n _ _ w (by omega) (by omega)
    · cases e; exact filePlays_main n _ _ _ _ w (by omega) (by omega) hA
end Go.Proofs.Ythhkecdcgalcbaa
