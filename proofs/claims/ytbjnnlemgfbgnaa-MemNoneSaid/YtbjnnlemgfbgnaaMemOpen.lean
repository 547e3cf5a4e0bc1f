/- What a row's condition gives the walks of layer 5: numbers in a slice, an act by value, a slice of acts. -/
import Derived.Test.YtbjnnlemgfbgnaaGrown
import Derived.Test.YtbjnnlemgfbgnaaMemPlays
import Derived.ProofKit
import Derived.OpenShut
import Derived.Stop.Joined
import Derived.ChangeSlices
import Derived.Deep.Slices
import Derived.WideKeyArgs
namespace Go.Proofs.Ytbjnnlemgfbgnaa
open Go.ChangeShapes Go.WideShapes Go.ChangeAt Go.WideMaps Go.WideElems Go.RowKit Go.Deep
theorem mem_wf8 {n : Int} (h : (Lit.int .u8 n).wf = true) : 0 ≤ n ∧ n < 256 := by
  simp only [Lit.wf, Bool.and_eq_true, decide_eq_true_eq] at h
  simp [IntKind.min, IntKind.max, IntKind.bits, IntKind.signed] at h
  omega
theorem mem_wf32 {n : Int} (h : (Lit.int .u32 n).wf = true) : 0 ≤ n ∧ n < 4294967296 := by
  simp only [Lit.wf, Bool.and_eq_true, decide_eq_true_eq] at h
  simp [IntKind.min, IntKind.max, IntKind.bits, IntKind.signed] at h
  omega
theorem mem_wf64 {n : Int} (h : (Lit.int .i64 n).wf = true) : -9223372036854775808 ≤ n ∧ n ≤ 9223372036854775807 := by
  simp only [Lit.wf, Bool.and_eq_true, decide_eq_true_eq] at h
  simp [IntKind.min, IntKind.max, IntKind.bits, IntKind.signed] at h
  omega
theorem mem_array5 {α : Type} {A : Array α} (h : A.size = 5) : ∃ a b c d e, A = #[a, b, c, d, e] := by
  obtain ⟨l⟩ := A
  match l, h with
  | [a, b, c, d, e], _ => exact ⟨a, b, c, d, e, rfl⟩
theorem mem_list5 {α : Type} {l : List α} (h : l.length = 5) : ∃ a b c d e, l = [a, b, c, d, e] := by
  match l, h with
  | [a, b, c, d, e], _ => exact ⟨a, b, c, d, e, rfl⟩
/-- Numbers that came in. -/
theorem trod_words {H : Type} {enc : TypeId × Value → H} {w : World} {base : Nat} {spare : Nat → Bool} {held : Bool} {fuel : Nat} {cs : List Value} {x : DataW H × List MemPlace}
    (hf : DataW.trod enc Try.prog w base spare held fuel 32 cs = some x) :
    ∃ p n c h, cs = [.slice p n c] ∧ n ≤ c ∧ (n : Int) ≤ 9223372036854775807 ∧ Sl .u32 w (.slice p n c) n h ∧ ∀ i, 0 ≤ h i ∧ h i < 4294967296 := by
  rcases open_ints Try.underlying32 Try.underlying31 (by kernel_rfl) hf with ⟨rfl, _⟩ | ⟨a, len, cap, zs, rfl, _, hl, hm, hz, _, hc, hw⟩
  · exact ⟨none, 0, 0, fun _ => 0, rfl, by omega, by omega, Sl.nil _ _ _ _ _, fun _ => (by decide : (0 : Int) ≤ 0 ∧ (0 : Int) < 4294967296)⟩
  · have hlz : len ≤ zs.length := by rw [hz]; split <;> omega
    have hm' : cap ≤ 9223372036854775807 := hm
    refine ⟨some a, len, cap, fun i => zs.getD i 0, rfl, hl, by omega, ⟨_, _, rfl, fun hn => ?_⟩, fun i => ?_⟩
    · obtain ⟨ab, ao, asp⟩ := a
      have h0 := hc 0 (by omega)
      have hs : asp = none := by
        cases asp with
        | none => rfl
        | some y =>
          exfalso
          simp only [Addr.add, World.cell?] at h0
          split at h0 <;> simp at h0
      subst hs
      exact ⟨ab, ao, rfl, fun i hi => by have := hc i (by omega); rw [add_at] at this; exact this⟩
    · by_cases hi : i < zs.length
      · have : zs.getD i 0 = zs[i] := by simp [List.getD, List.getElem?_eq_getElem hi]
        simp only [this]
        exact mem_wf32 (hw _ (List.getElem_mem hi))
      · have : zs.getD i 0 = 0 := by simp [List.getD, List.getElem?_eq_none (by omega : zs.length ≤ i)]
        simp only [this]
        omega
/-- The cells of an act. -/
theorem trod_mact {H : Type} {enc : TypeId × Value → H} {w : World} {base : Nat} {spare : Nat → Bool} {held : Bool} {fuel : Nat} {c0 c1 c2 c3 c4 : Value} {z : DataW H × List MemPlace}
    (hf : DataW.trod enc Try.prog w base spare held fuel 34 [c0, c1, c2, c3, c4] = some z) :
    ∃ (wh ad mn x : Int) (p : Option Addr) (l c : Nat) (h : Nat → Int), c0 = .int .u8 wh ∧ c1 = .int .u32 ad ∧ c2 = .int .i64 mn ∧ c3 = .int .u32 x ∧ c4 = .slice p l c ∧ (0 ≤ wh ∧ wh < 256) ∧ (0 ≤ ad ∧ ad < 4294967296) ∧ (-9223372036854775808 ≤ mn ∧ mn ≤ 9223372036854775807) ∧ (0 ≤ x ∧ x < 4294967296) ∧ l ≤ c ∧ (l : Int) ≤ 9223372036854775807 ∧ Sl .u32 w (.slice p l c) l h ∧ ∀ i, 0 ≤ h i ∧ h i < 4294967296 := by
  obtain ⟨xs, n, _, hx, hlen, hn, hg⟩ := DataW.trod_struct Try.underlying34 hf
  match xs, hn with
  | [y0, y1, y2, y3, y4], _ =>
    have k0 : Try.prog.cellsOf 5 = 1 := by kernel_rfl
    have k1 : Try.prog.cellsOf 31 = 1 := by kernel_rfl
    have k2 : Try.prog.cellsOf 3 = 1 := by kernel_rfl
    have k4 : Try.prog.cellsOf 32 = 1 := by kernel_rfl
    obtain ⟨wh, e0, _, g0⟩ := DataW.trod_int Try.underlying5 (hg 0 _ rfl)
    obtain ⟨ad, e1, _, g1⟩ := DataW.trod_int Try.underlying31 (hg 1 _ rfl)
    obtain ⟨mn, e2, _, g2⟩ := DataW.trod_int Try.underlying3 (hg 2 _ rfl)
    obtain ⟨x, e3, _, g3⟩ := DataW.trod_int Try.underlying31 (hg 3 _ rfl)
    obtain ⟨p, l, c, h, e4, hlc, hl, hS, hh⟩ := trod_words (hg 4 _ rfl)
    simp [k0, k1, k2, k4] at e0 e1 e2 e3 e4
    subst e0 e1 e2 e3 e4
    exact ⟨wh, ad, mn, x, p, l, c, h, rfl, rfl, rfl, rfl, rfl, mem_wf8 g0, mem_wf32 g1, mem_wf64 g2, mem_wf32 g3, hlc, hl, hS, hh⟩
/-- An act by value. -/
theorem open_mact {H : Type} {enc : TypeId × Value → H} {w : World} {base : Nat} {spare : Nat → Bool} {held : Bool} {r : Reach} {b0 : Nat} {v : Value} {d : DataW H} {q : List MemPlace}
    (hv : Value.okWide Try.prog w r b0 34 v) (h : DataW.Trod enc Try.prog w base spare held 34 v d q) :
    ∃ (wh ad mn x : Int) (p : Option Addr) (l c : Nat) (h : Nat → Int), v = .agg #[.int .u8 wh, .int .u32 ad, .int .i64 mn, .int .u32 x, .slice p l c] ∧ (0 ≤ wh ∧ wh < 256) ∧ (0 ≤ ad ∧ ad < 4294967296) ∧ (-9223372036854775808 ≤ mn ∧ mn ≤ 9223372036854775807) ∧ (0 ≤ x ∧ x < 4294967296) ∧ l ≤ c ∧ (l : Int) ≤ 9223372036854775807 ∧ Sl .u32 w (.slice p l c) l h ∧ ∀ i, 0 ≤ h i ∧ h i < 4294967296 := by
  obtain ⟨cs, rfl, hsz⟩ := okWide_struct Try.underlying34 hv
  obtain ⟨c0, c1, c2, c3, c4, rfl⟩ := mem_array5 (hsz.trans (by kernel_rfl))
  obtain ⟨fuel, hf⟩ := h
  obtain ⟨wh, ad, mn, x, p, l, c, h, rfl, rfl, rfl, rfl, rfl, hr⟩ := trod_mact (z := (d, q)) hf
  exact ⟨wh, ad, mn, x, p, l, c, h, rfl, hr⟩
/-- Words that came in. -/
theorem open_words {H : Type} {enc : TypeId × Value → H} {w : World} {base : Nat} {spare : Nat → Bool} {held : Bool} {r : Reach} {b0 : Nat} {v : Value} {d : DataW H} {q : List MemPlace}
    (hv : Value.okWide Try.prog w r b0 32 v) (h : DataW.Trod enc Try.prog w base spare held 32 v d q) :
    ∃ p n c h, v = .slice p n c ∧ n ≤ c ∧ (n : Int) ≤ 9223372036854775807 ∧ Sl .u32 w (.slice p n c) n h ∧ ∀ i, 0 ≤ h i ∧ h i < 4294967296 := by
  obtain ⟨a, len, cap, rfl⟩ := okWide_slice Try.underlying32 hv
  obtain ⟨fuel, hf⟩ := h
  obtain ⟨p, n, c, h, e, hr⟩ := trod_words hf
  have h0 : (Value.slice a len cap).cells.toList = [Value.slice a len cap] := rfl
  rw [h0] at e
  cases e
  exact ⟨a, len, cap, h, rfl, hr⟩
/-- Acts that came in. -/
theorem open_macts {H : Type} {enc : TypeId × Value → H} {w : World} {r : Reach} {b0 : Nat} {v : Value} {d : DataW H} {q : List MemPlace}
    (hv : Value.okWide Try.prog w r b0 22 v) (h : DataW.Trod enc Try.prog w 0 (fun _ => true) true 22 v d q) :
    ∃ sp len cap, v = .slice sp len cap ∧ (0 < len → ∃ s o, sp = some ⟨s, o, none⟩ ∧ MActs w s o len) := by
  obtain ⟨a, len, cap, rfl⟩ := okWide_slice Try.underlying22 hv
  refine ⟨a, len, cap, rfl, fun hpos => ?_⟩
  obtain ⟨fuel, hf⟩ := h
  have hcel : Try.prog.cellsOf 34 = 5 := by kernel_rfl
  have h0' : (Value.slice a len cap).cells.toList = [Value.slice a len cap] := rfl
  rcases open_slice Try.underlying22 hf with ⟨h0, _⟩ | ⟨a', len', cap', m, n, D, Pl, hcs, _, hl, _, hm, _, hi⟩
  · rw [h0'] at h0
    cases h0
    omega
  · rw [h0'] at hcs
    cases hcs
    simp only [if_true] at hm
    subst hm
    rw [hcel] at hi
    obtain ⟨cs0, hc0, _⟩ := hi 0 (by omega)
    obtain ⟨_, hn0, hat0⟩ := World.cells?_some hc0
    obtain ⟨ab, ao, asp⟩ := a'
    have hspot : asp = none := by
      have := hat0 0 (by omega)
      obtain ⟨c0, c1, c2, c3, c4, rfl⟩ := mem_list5 hn0
      cases asp with
      | none => rfl
      | some x =>
        exfalso
        simp only [Addr.add, World.cell?] at this
        split at this <;> simp at this
    subst hspot
    refine ⟨ab, ao, rfl, fun i hlt => ?_⟩
    obtain ⟨cs, hc, ht⟩ := hi i (by omega)
    obtain ⟨_, hn, hat⟩ := World.cells?_some hc
    obtain ⟨c0, c1, c2, c3, c4, rfl⟩ := mem_list5 hn
    obtain ⟨wh, ad, mn, x, p, l, c, h, rfl, rfl, rfl, rfl, rfl, g0, g1, g2, g3, _, _, hS, hh⟩ := trod_mact ht
    have ad' : ∀ j, ((⟨ab, ao, none⟩ : Addr).add (i * 5)).add j = ⟨ab, ao + i * 5 + j, none⟩ := fun j => by rw [add_at, add_at]
    have e0 := hat 0 (by omega)
    have e1 := hat 1 (by omega)
    have e2 := hat 2 (by omega)
    have e3 := hat 3 (by omega)
    have e4 := hat 4 (by omega)
    rw [ad'] at e0 e1 e2 e3 e4
    exact ⟨wh, ad, mn, x, p, l, c, h, e0, e1, e2, e3, e4, hS, g0, g1, g2, g3, hh⟩
/-- Two numbers by value. -/
theorem open_pair {H : Type} {enc : TypeId × Value → H} {w : World} {base : Nat} {spare : Nat → Bool} {held : Bool} {r : Reach} {b0 : Nat} {v : Value} {d : DataW H} {q : List MemPlace}
    (hv : Value.okWide Try.prog w r b0 59 v) (h : DataW.Trod enc Try.prog w base spare held 59 v d q) :
    ∃ x y : Int, v = .agg #[.int .u32 x, .int .u32 y] ∧ q = [] ∧ (0 ≤ x ∧ x < 4294967296) ∧ (0 ≤ y ∧ y < 4294967296) := by
  obtain ⟨cs, rfl, hsz⟩ : ∃ cs, v = .agg cs ∧ cs.size = Try.prog.cellsOf 59 := by
    simp only [Value.okWide, Try.underlying59] at hv
    obtain ⟨cs, h1, h2, _⟩ := hv
    exact ⟨cs, h1, h2⟩
  obtain ⟨c0, c1, rfl⟩ : ∃ a b, cs = #[a, b] := by
    have h2 : cs.size = 2 := hsz.trans (by kernel_rfl)
    obtain ⟨l⟩ := cs
    match l, h2 with
    | [a, b], _ => exact ⟨a, b, rfl⟩
  obtain ⟨fuel, hf⟩ := h
  obtain ⟨xs, n, _, hx, hlen, hn, hg⟩ := DataW.trod_array Try.underlying59 hf
  match xs, hn with
  | [y0, y1], _ =>
    have k1 : Try.prog.cellsOf 31 = 1 := by kernel_rfl
    obtain ⟨x, e0, f0, g0⟩ := DataW.trod_int Try.underlying31 (hg 0 (by omega))
    obtain ⟨y, e1, f1, g1⟩ := DataW.trod_int Try.underlying31 (hg 1 (by omega))
    simp [k1, Value.cells] at e0 e1
    subst e0 e1 f0 f1
    exact ⟨x, y, rfl, by have := congrArg Prod.snd hx; simpa using this, mem_wf32 g0, mem_wf32 g1⟩
theorem pair_flat : flatT Try.prog 3 59 = true := by kernel_rfl
end Go.Proofs.Ytbjnnlemgfbgnaa
