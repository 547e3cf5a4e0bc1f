/- What a row's condition gives the walks of AsmPlays and AsmMoves (layer 7): acts and instructions that come in, cell by cell, and how much of them there can be. -/
import Derived.Test.YtoecanjhkbeemaaDoorAsmGreat
import Derived.Test.YtoecanjhkbeemaaDoorAsmOpen
import Derived.Deep.Slices
import Derived.SizedLaws
import Derived.WideKeyArgs
namespace Go.Proofs.YtoecanjhkbeemaaDoor.A7
open Go.ChangeShapes Go.WideShapes Go.ChangeAt Go.WideMaps Go.WideElems Go.RowKit Go.Deep
set_option linter.unusedVariables false
theorem i32_b {n : Int} (h : (Lit.int .i32 n).wf = true) : -2147483648 ≤ n ∧ n ≤ 2147483647 := by
  simp only [Lit.wf, Bool.and_eq_true, decide_eq_true_eq] at h
  simp [IntKind.min, IntKind.max, IntKind.bits, IntKind.signed] at h
  omega
theorem b8 {n : Int} (h : (Lit.int .u8 n).wf = true) : 0 ≤ n ∧ n ≤ 255 := by have := u8_b h; omega
theorem six {α : Type} {l : List α} (h : l.length = 6) : ∃ a b c d e f, l = [a, b, c, d, e, f] := by
  match l, h with
  | [a, b, c, d, e, f], _ => exact ⟨a, b, c, d, e, f, rfl⟩
theorem five {α : Type} {l : List α} (h : l.length = 5) : ∃ a b c d e, l = [a, b, c, d, e] := by
  match l, h with
  | [a, b, c, d, e], _ => exact ⟨a, b, c, d, e, rfl⟩
/-- None of its sizes is more than there can be. -/
def Sized {H : Type} (P : Program) (t : TypeId) (d : DataW H) : Prop := ∀ n ∈ d.weights P t, n ≤ reachBytes
theorem weights_all {H : Type} {P : Program} {e : TypeId} : ∀ {l : List (DataW H)} {d : DataW H}, d ∈ l → ∀ n ∈ d.weights P e, n ∈ DataW.weightsAll P e l
  | x :: l, d, hd, n, hn => by
    simp only [DataW.weightsAll, List.mem_append]
    rcases List.mem_cons.1 hd with rfl | hd
    · exact .inl hn
    · exact .inr (weights_all hd n hn)
theorem Sized.slice {H : Type} {P : Program} {t e : TypeId} {l r : List (DataW H)} (hu : P.underlying t = some (.slice e)) (h : Sized P t (.slice l r)) : (l.length + r.length) * P.bytesOf e ≤ reachBytes ∧ ∀ d ∈ l, Sized P e d := by
  unfold Sized at h
  simp only [DataW.weights, hu, List.mem_cons, List.mem_append] at h
  exact ⟨h _ (.inl rfl), fun d hd n hn => h n (.inr (.inl (weights_all hd n hn)))⟩
theorem Sized.field {H : Type} {P : Program} {t : TypeId} {fs : Array Field} {l : List (DataW H)} (hu : P.underlying t = some (.struct fs)) (h : Sized P t (.agg l)) {j : Nat} {u : TypeId} {d : DataW H} (ht : (fs.toList.map (·.type))[j]? = some u) (hd : l[j]? = some d) : Sized P u d := by
  unfold Sized at h
  simp only [DataW.weights, hu] at h
  exact fun n hn => h n (DataW.weights_mem_each ht hd n hn)
theorem Sized.string {H : Type} {P : Program} {t : TypeId} {l : List UInt8} (h : Sized P t (.lit (.string l) : DataW H)) : l.length ≤ reachBytes := h _ (by simp [DataW.weights])
instance : Inhabited XI := ⟨⟨0, 0, 0, 0, false, 0⟩⟩
instance : Inhabited Ac := ⟨⟨0, 0, fun _ => default, ByteArray.empty, 0, 0⟩⟩
theorem trod_inst {H : Type} {enc : TypeId × Value → H} {w : World} {base : Nat} {spare : Nat → Bool} {held : Bool} {fuel : Nat} {c0 c1 c2 c3 c4 c5 : Value} {z : DataW H × List MemPlace}
    (hf : DataW.trod enc Tryd.prog w base spare held fuel 49 [c0, c1, c2, c3, c4, c5] = some z) :
    ∃ x : XI, c0 = .int .u8 x.o ∧ c1 = .int .u8 x.d ∧ c2 = .int .u8 x.s ∧ c3 = .int .u8 x.t ∧ c4 = .bool x.b ∧ c5 = .int .i32 x.n ∧ XB x := by
  obtain ⟨xs, n, _, hx, _, hlen, hg⟩ := DataW.trod_struct Tryd.underlying49 hf
  match xs, hlen with
  | [y0, y1, y2, y3, y4, y5], _ =>
    have k5 : Tryd.prog.cellsOf 5 = 1 := by kernel_rfl
    have k4 : Tryd.prog.cellsOf 4 = 1 := by kernel_rfl
    have k21 : Tryd.prog.cellsOf 21 = 1 := by kernel_rfl
    obtain ⟨o, e1, f1, g1⟩ := DataW.trod_int Tryd.underlying5 (hg 0 _ rfl)
    obtain ⟨e, e2, f2, g2⟩ := DataW.trod_int Tryd.underlying5 (hg 1 _ rfl)
    obtain ⟨s, e3, f3, g3⟩ := DataW.trod_int Tryd.underlying5 (hg 2 _ rfl)
    obtain ⟨t, e4, f4, g4⟩ := DataW.trod_int Tryd.underlying5 (hg 3 _ rfl)
    obtain ⟨b, e5, f5⟩ := DataW.trod_bool Tryd.underlying4 (hg 4 _ rfl)
    obtain ⟨m, e6, f6, g6⟩ := DataW.trod_int Tryd.underlying21 (hg 5 _ rfl)
    simp [k5, k4, k21] at e1 e2 e3 e4 e5 e6
    exact ⟨⟨o, e, s, t, b, m⟩, e1, e2, e3, e4, e5, e6, ⟨b8 g1, b8 g2, b8 g3, b8 g4, i32_b g6⟩⟩
theorem spot_none {w : World} {ab ao n : Nat} {asp : Option Nat} {v : Value} (h : w.cell? (((⟨ab, ao, asp⟩ : Addr).add (0 * n)).add 0) = some v) : asp = none := by
  cases asp with
  | none => rfl
  | some y =>
    exfalso
    simp only [Nat.zero_mul, Addr.add, World.cell?] at h
    split at h <;> simp at h
set_option maxRecDepth 100000 in
/-- Instructions that came in. -/
theorem trod_insts {H : Type} {enc : TypeId × Value → H} {w : World} {fuel : Nat} {cs : List Value} {z : DataW H × List MemPlace}
    (hf : DataW.trod enc Tryd.prog w 0 (fun _ => true) true fuel 33 cs = some z) (hz : Sized Tryd.prog 33 z.1) :
    ∃ (v : Value) (k : Nat) (X : Nat → XI), cs = [v] ∧ Ins w (fun i => w.heap.size ≤ i) v k X ∧ (∀ i, i < k → XB (X i)) ∧ k ≤ 140737488355328 := by
  have hcel : Tryd.prog.cellsOf 49 = 6 := by kernel_rfl
  have hby : Tryd.prog.bytesOf 49 = 12 := by kernel_rfl
  rcases open_slice Tryd.underlying33 hf with ⟨rfl, _⟩ | ⟨a, len, cap, m, n, D, Pl, rfl, _, hl, _, hm, hx, hi⟩
  · exact ⟨_, 0, fun _ => default, rfl, ⟨none, 0, rfl, fun h => absurd h (Nat.lt_irrefl 0)⟩, fun i h => absurd h (Nat.not_lt_zero i), by omega⟩
  · simp only [if_true] at hm
    subst hm
    rw [hcel] at hi
    rw [hx] at hz
    have hb := (hz.slice Tryd.underlying33).1
    rw [hby] at hb
    simp only [List.length_map, List.length_range] at hb
    have hr : reachBytes ≤ 140737488355328 := by decide
    obtain ⟨ab, ao, asp⟩ := a
    by_cases h0 : len = 0
    · subst h0
      exact ⟨_, 0, fun _ => default, rfl, ⟨_, _, rfl, fun h => absurd h (Nat.lt_irrefl 0)⟩, fun i h => absurd h (Nat.not_lt_zero i), by omega⟩
    obtain ⟨cs0, hc0, _⟩ := hi 0 (by omega)
    obtain ⟨_, hn0, hat0⟩ := World.cells?_some hc0
    obtain ⟨c0, c1, c2, c3, c4, c5, rfl⟩ := six hn0
    have hspot : asp = none := spot_none (hat0 0 (by omega))
    subst hspot
    clear hc0 hn0 hat0
    have each : ∀ i, i < len → ∃ x : XI, (ab < w.heap.size ∧ w.cell? ⟨ab, ao + i * 6, none⟩ = some (.int .u8 x.o) ∧ w.cell? ⟨ab, ao + i * 6 + 1, none⟩ = some (.int .u8 x.d) ∧ w.cell? ⟨ab, ao + i * 6 + 2, none⟩ = some (.int .u8 x.s) ∧ w.cell? ⟨ab, ao + i * 6 + 3, none⟩ = some (.int .u8 x.t) ∧ w.cell? ⟨ab, ao + i * 6 + 4, none⟩ = some (.bool x.b) ∧ w.cell? ⟨ab, ao + i * 6 + 5, none⟩ = some (.int .i32 x.n)) ∧ XB x := by
      intro i hlt
      obtain ⟨cs, hc, ht⟩ := hi i (by omega)
      obtain ⟨_, hn, hat⟩ := World.cells?_some hc
      obtain ⟨c0, c1, c2, c3, c4, c5, rfl⟩ := six hn
      obtain ⟨x, rfl, rfl, rfl, rfl, rfl, rfl, hxb⟩ := trod_inst ht
      have ad' : ∀ j, ((⟨ab, ao, none⟩ : Addr).add (i * 6)).add j = ⟨ab, ao + i * 6 + j, none⟩ := fun j => by rw [add_at, add_at]
      have e0 := hat 0 (by omega)
      have e1 := hat 1 (by omega)
      have e2 := hat 2 (by omega)
      have e3 := hat 3 (by omega)
      have e4 := hat 4 (by omega)
      have e5 := hat 5 (by omega)
      rw [ad'] at e0 e1 e2 e3 e4 e5
      exact ⟨x, ⟨block_lt_of_cell (a := ⟨ab, ao + i * 6 + 0, none⟩) e0, e0, e1, e2, e3, e4, e5⟩, hxb⟩
    obtain ⟨X, hX⟩ := choose_lt each
    refine ⟨_, len, X, rfl, ⟨_, _, rfl, fun h0 => ?_⟩, fun i h => (hX i h).2, by omega⟩
    obtain ⟨hab, _⟩ := (hX 0 h0).1
    exact ⟨ab, ao, rfl, Nat.not_le.2 hab, fun i h => (hX i h).1.2⟩
/-- The cells of an act. -/
theorem trod_act {H : Type} {enc : TypeId × Value → H} {w : World} {fuel : Nat} {c0 c1 c2 c3 c4 : Value} {z : DataW H × List MemPlace}
    (hf : DataW.trod enc Tryd.prog w 0 (fun _ => true) true fuel 36 [c0, c1, c2, c3, c4] = some z) (hz : Sized Tryd.prog 36 z.1) :
    ∃ a : Ac, c0 = .int .u8 a.what ∧ Ins w (fun i => w.heap.size ≤ i) c1 a.k a.X ∧ c2 = .string a.nm ∧ c3 = .int .u8 a.c ∧ c4 = .int .u32 a.u ∧ AcB a := by
  obtain ⟨xs, n, _, hx, hlen, hn, hg⟩ := DataW.trod_struct Tryd.underlying36 hf
  match xs, hn with
  | [y0, y1, y2, y3, y4], _ =>
    have k0 : Tryd.prog.cellsOf 5 = 1 := by kernel_rfl
    have k1 : Tryd.prog.cellsOf 33 = 1 := by kernel_rfl
    have k2 : Tryd.prog.cellsOf 9 = 1 := by kernel_rfl
    have k4 : Tryd.prog.cellsOf 34 = 1 := by kernel_rfl
    have hr : reachBytes ≤ 140737488355328 := by decide
    rw [hx] at hz
    have z1 := hz.field (j := 1) (d := y1.1) Tryd.underlying36 rfl rfl
    have z2 := hz.field (j := 2) (d := y2.1) Tryd.underlying36 rfl rfl
    obtain ⟨wh, e0, _, g0⟩ := DataW.trod_int Tryd.underlying5 (hg 0 _ rfl)
    obtain ⟨v, k, X, e1, hI, hX, hk⟩ := trod_insts (hg 1 _ rfl) z1
    obtain ⟨s, e2, f2, g2⟩ := DataW.trod_string Tryd.underlying9 (hg 2 _ rfl)
    obtain ⟨cd, e3, _, g3⟩ := DataW.trod_int Tryd.underlying5 (hg 3 _ rfl)
    obtain ⟨u, e4, _, g4⟩ := DataW.trod_int Tryd.underlying34 (hg 4 _ rfl)
    simp [k0, k1, k2, k4] at e0 e1 e2 e3 e4
    rw [f2] at z2
    have hs : s.size ≤ reachBytes := by have := z2.string; simpa using this
    subst e1
    exact ⟨⟨wh, k, X, s, cd, u⟩, e0, hI, e2, e3, e4, ⟨b8 g0, hX, b8 g3, u32_b g4, hk, Nat.le_trans hs hr⟩⟩
set_option maxRecDepth 100000 in
/-- Acts that came in. -/
theorem trod_acts {H : Type} {enc : TypeId × Value → H} {w : World} {fuel : Nat} {cs : List Value} {z : DataW H × List MemPlace}
    (hf : DataW.trod enc Tryd.prog w 0 (fun _ => true) true fuel 22 cs = some z) (hz : Sized Tryd.prog 22 z.1) :
    ∃ (v : Value) (k : Nat) (A : Nat → Ac), cs = [v] ∧ Acts w (fun i => w.heap.size ≤ i) v k A ∧ (∀ i, i < k → AcB (A i)) ∧ k ≤ 140737488355328 := by
  have hcel : Tryd.prog.cellsOf 36 = 5 := by kernel_rfl
  have hby : Tryd.prog.bytesOf 36 = 56 := by kernel_rfl
  rcases open_slice Tryd.underlying22 hf with ⟨rfl, _⟩ | ⟨a, len, cap, m, n, D, Pl, rfl, _, hl, _, hm, hx, hi⟩
  · exact ⟨_, 0, fun _ => default, rfl, ⟨none, 0, rfl, fun h => absurd h (Nat.lt_irrefl 0)⟩, fun i h => absurd h (Nat.not_lt_zero i), by omega⟩
  · simp only [if_true] at hm
    subst hm
    rw [hcel] at hi
    rw [hx] at hz
    obtain ⟨hb, hD⟩ := hz.slice Tryd.underlying22
    rw [hby] at hb
    simp only [List.length_map, List.length_range] at hb
    have hr : reachBytes ≤ 140737488355328 := by decide
    obtain ⟨ab, ao, asp⟩ := a
    by_cases h0 : len = 0
    · subst h0
      exact ⟨_, 0, fun _ => default, rfl, ⟨_, _, rfl, fun h => absurd h (Nat.lt_irrefl 0)⟩, fun i h => absurd h (Nat.not_lt_zero i), by omega⟩
    obtain ⟨cs0, hc0, _⟩ := hi 0 (by omega)
    obtain ⟨_, hn0, hat0⟩ := World.cells?_some hc0
    obtain ⟨c0, c1, c2, c3, c4, rfl⟩ := five hn0
    have hspot : asp = none := spot_none (hat0 0 (by omega))
    subst hspot
    clear hc0 hn0 hat0
    have each : ∀ i, i < len → ∃ x : Ac, (ab < w.heap.size ∧ ∃ lv, w.cell? ⟨ab, ao + i * 5, none⟩ = some (.int .u8 x.what) ∧ w.cell? ⟨ab, ao + i * 5 + 1, none⟩ = some lv ∧ Ins w (fun i => w.heap.size ≤ i) lv x.k x.X ∧ w.cell? ⟨ab, ao + i * 5 + 2, none⟩ = some (.string x.nm) ∧ w.cell? ⟨ab, ao + i * 5 + 3, none⟩ = some (.int .u8 x.c) ∧ w.cell? ⟨ab, ao + i * 5 + 4, none⟩ = some (.int .u32 x.u)) ∧ AcB x := by
      intro i hlt
      obtain ⟨cs, hc, ht⟩ := hi i (by omega)
      obtain ⟨_, hn, hat⟩ := World.cells?_some hc
      obtain ⟨c0, c1, c2, c3, c4, rfl⟩ := five hn
      obtain ⟨x, rfl, hI, rfl, rfl, rfl, hxb⟩ := trod_act ht (hD _ (List.mem_map.2 ⟨i, List.mem_range.2 hlt, rfl⟩))
      have ad' : ∀ j, ((⟨ab, ao, none⟩ : Addr).add (i * 5)).add j = ⟨ab, ao + i * 5 + j, none⟩ := fun j => by rw [add_at, add_at]
      have e0 := hat 0 (by omega)
      have e1 := hat 1 (by omega)
      have e2 := hat 2 (by omega)
      have e3 := hat 3 (by omega)
      have e4 := hat 4 (by omega)
      rw [ad'] at e0 e1 e2 e3 e4
      exact ⟨x, ⟨block_lt_of_cell (a := ⟨ab, ao + i * 5 + 0, none⟩) e0, c1, e0, e1, hI, e2, e3, e4⟩, hxb⟩
    obtain ⟨A, hA⟩ := choose_lt each
    refine ⟨_, len, A, rfl, ⟨_, _, rfl, fun h0 => ?_⟩, fun i h => (hA i h).2, by omega⟩
    obtain ⟨hab, _⟩ := (hA 0 h0).1
    exact ⟨ab, ao, rfl, Nat.not_le.2 hab, fun i h => (hA i h).1.2⟩
/-- A value of one cell. -/
theorem slice_cells (a : Option Addr) (n c : Nat) : (Value.slice a n c).cells.toList = [Value.slice a n c] := rfl
theorem open_insts {H : Type} {enc : TypeId × Value → H} {w : World} {r : Reach} {b0 : Nat} {v : Value} {d : DataW H} {q : List MemPlace}
    (hv : Value.okWide Tryd.prog w r b0 33 v) (h : DataW.Trod enc Tryd.prog w 0 (fun _ => true) true 33 v d q) (hz : Sized Tryd.prog 33 d) :
    ∃ (k : Nat) (X : Nat → XI), Ins w (fun i => w.heap.size ≤ i) v k X ∧ (∀ i, i < k → XB (X i)) ∧ k ≤ 140737488355328 := by
  obtain ⟨a, len, cap, rfl⟩ := okWide_slice Tryd.underlying33 hv
  obtain ⟨fuel, hf⟩ := h
  obtain ⟨v, k, X, e, hr⟩ := trod_insts hf hz
  rw [slice_cells] at e
  cases e
  exact ⟨k, X, hr⟩
theorem open_acts {H : Type} {enc : TypeId × Value → H} {w : World} {r : Reach} {b0 : Nat} {v : Value} {d : DataW H} {q : List MemPlace}
    (hv : Value.okWide Tryd.prog w r b0 22 v) (h : DataW.Trod enc Tryd.prog w 0 (fun _ => true) true 22 v d q) (hz : Sized Tryd.prog 22 d) :
    ∃ (k : Nat) (A : Nat → Ac), Acts w (fun i => w.heap.size ≤ i) v k A ∧ (∀ i, i < k → AcB (A i)) ∧ k ≤ 140737488355328 := by
  obtain ⟨a, len, cap, rfl⟩ := okWide_slice Tryd.underlying22 hv
  obtain ⟨fuel, hf⟩ := h
  obtain ⟨v, k, A, e, hr⟩ := trod_acts hf hz
  rw [slice_cells] at e
  cases e
  exact ⟨k, A, hr⟩
theorem sized_at {H : Type} {P : Program} {ts : List TypeId} {ds : List (DataW H)} (h : (DataW.weightsEach P ts ds).all (· ≤ reachBytes) = true) {j : Nat} {t : TypeId} {d : DataW H} (ht : ts[j]? = some t) (hd : ds[j]? = some d) : Sized P t d := fun n hn => by
  have := List.all_eq_true.1 h _ (DataW.weights_mem_each ht hd n hn)
  simpa using this
end Go.Proofs.YtoecanjhkbeemaaDoor.A7
