/- lex (layer 12): a token laid behind a row of one's own. -/
import Derived.Test.YthhbhfpdabiclaaGreatDoorLexCnt
import Derived.Test.YthhbhfpdabiclaaGreatDoorLexToken
import Derived.RangeFuncBox
import Derived.ArgAppend
namespace Go.Proofs.YthhbhfpdabiclaaGreatDoor.L12
open Go.RowKit Go.Shelf
set_option linter.unusedVariables false
def tokCells (t : Tok) : List Value := [.int .u8 (t.kind : Nat), .string (St t.text), .int .u32 (t.num : Nat), .int .i64 (t.line : Nat), .int .i64 (t.col : Nat)]
def tokRow (l : List Tok) : List Value := l.flatMap tokCells
theorem tokRow_snoc (l : List Tok) (t : Tok) : tokRow (l ++ [t]) = tokRow l ++ tokCells t := by simp [tokRow]
def tokZ : Value := .agg #[.int .u8 0, .string ⟨#[]⟩, .int .u32 0, .int .i64 0, .int .i64 0]
theorem tok_info : (Tryz.prog.info? 37).map (fun i => (i.zero, i.size, i.bytes)) = some (some tokZ, 5, 48) := by kernel_rfl
theorem tok_parts : ∃ i, Tryz.prog.info? 37 = some i ∧ i.zero = some tokZ ∧ i.size = 5 ∧ i.bytes = 48 := by
  have h := tok_info
  cases hi : Tryz.prog.info? 37 with
  | none => rw [hi] at h; cases h
  | some i =>
    rw [hi] at h
    simp only [Option.map_some, Option.some.injEq, Prod.mk.injEq] at h
    exact ⟨i, rfl, h⟩
theorem tok_one (t : Tok) : ∀ v ∈ tokCells t, v.oneCell' = true := by
  intro v hv
  simp only [tokCells, List.mem_cons, List.not_mem_nil, or_false] at hv
  rcases hv with rfl | rfl | rfl | rfl | rfl <;> rfl
theorem tok_news {w : World} {t : Tok} {c : Nat} (hc : w.heap[c]? = some (.cells (tokCells t).toArray 37 (0, 0))) : ∀ j v, (tokCells t)[j]? = some v → w.cell? ((⟨c, 0, none⟩ : Addr).add j) = some v := fun j v hj => by
  rw [add_at, Nat.zero_add, cell_of_row _ _ _ _ _ _ hc]
  simpa using hj
theorem tok_tell {w : World} (ty : TypeId) (base : Nat) (s : Value) (n : Nat) (xs : List Value) (t : Tok) (hown : w.ownsRow base 37 5 s n xs) (hbase : base ≤ w.heap.size) (c cc : Nat) (hc : w.heap[c]? = some (.cells (tokCells t).toArray 37 (0, 0))) (hn : n ≤ 8589934592) :
    ∃ g' c' w', (Builtin.append_ #[23, 23] ty #[s, .slice (some ⟨c, 0, none⟩) 1 cc]).run Tryz.prog w = .ok (.slice (some ⟨g', 0, none⟩) (n + 1) c') w' ∧ w'.ownsRow base 37 5 (.slice (some ⟨g', 0, none⟩) (n + 1) c') (n + 1) (xs ++ tokCells t) ∧ w.grownBy w' s.ownBlock ∧ (s = .slice (some ⟨g', 0, none⟩) n c' ∨ (w.heap.size ≤ g' ∧ w.grownBy w' none)) := by
  obtain ⟨i0, hi, hz0, hz1, hz2⟩ := tok_parts
  have hu : Tryz.prog.underlying 23 = some (.slice 37) := Tryz.underlying23
  have hnews := tok_news hc
  have h1 := tok_one t
  have hzs : tokZ.cells.size = 5 := rfl
  have hbig : (n + 1) * 48 ≤ 140737488355328 := by omega
  obtain ⟨v', w', hrun, r1, r2, r3⟩ := run_append_own (P := Tryz.prog) w base 23 ty 37 i0 tokZ 5 48 hu hi hz0 hz1 hz2 hzs (by decide) s n xs hown ⟨c, 0, none⟩ 1 cc (tokCells t) rfl hnews h1 (by unfold maxLen; omega) hbig hbase
  obtain ⟨g', c', rfl⟩ : ∃ g' c', v' = .slice (some ⟨g', 0, none⟩) (n + 1) c' := by
    obtain ⟨_, ⟨_, h0⟩ | ⟨g', c', _, rfl, _⟩⟩ := r1
    · omega
    · exact ⟨g', c', rfl⟩
  refine ⟨g', c', w', hrun, r1, r2, ?_⟩
  obtain ⟨hlen, ⟨rfl, h0⟩ | ⟨b0, cap, cur, rfl, _, hb0, hnc, hcm, hcs, hct⟩⟩ := hown
  · right
    subst h0
    obtain rfl : xs = [] := List.eq_nil_of_length_eq_zero (by simpa using hlen)
    obtain ⟨v2, w2, hrun2, q1, q2, _⟩ := run_append_own (P := Tryz.prog) w w.heap.size 23 ty 37 i0 tokZ 5 48 hu hi hz0 hz1 hz2 hzs (by decide) (.slice none 0 0) 0 [] (World.ownsRow_nil w _ _ _) ⟨c, 0, none⟩ 1 cc (tokCells t) rfl hnews h1 (by unfold maxLen; omega) hbig (Nat.le_refl _)
    rw [hrun2] at hrun
    simp only [Result.ok.injEq] at hrun
    obtain ⟨rfl, rfl⟩ := hrun
    exact ⟨(q1.lt g' rfl).1, q2⟩
  · by_cases hroom : n + 1 ≤ cap
    · left
      have hl5 : (tokCells t).length = 5 := rfl
      have := run_append_room_cells (P := Tryz.prog) w 23 ty 37 i0 hu hi b0 0 n cap ⟨c, 0, none⟩ 1 cc (tokCells t) (by rw [hz1]; rfl) hnews h1 hroom
        (fun j hj => by
          rw [hz1, cell_of_row _ _ _ _ _ _ hb0]; simp; omega)
        (fun j hj => by rw [frozen_of_row _ _ _ _ _ hb0])
      rw [this] at hrun
      simp only [Result.ok.injEq, Value.slice.injEq, Option.some.injEq, Addr.mk.injEq] at hrun
      obtain ⟨⟨⟨rfl, _⟩, _, rfl⟩, _⟩ := hrun
      rfl
    · right
      obtain ⟨v2, w2, hrun2, q1, q2⟩ := run_append_arg_grows (P := Tryz.prog) w 23 ty 37 i0 tokZ 5 48 hu hi hz0 hz1 hz2 hzs (by decide) ⟨b0, 0, none⟩ n cap xs (by rw [hlen])
        (fun j v hj => by
          have hjn : j < n * 5 := by
            rcases Nat.lt_or_ge j (n * 5) with hh | hh
            · exact hh
            · rw [List.getElem?_eq_none (by rw [hlen]; omega)] at hj; cases hj
          rw [add_at, Nat.zero_add, cell_of_row _ _ _ _ _ _ hb0, ← hj, ← hct, List.getElem?_take_of_lt (by omega)]; simp)
        ⟨c, 0, none⟩ 1 cc (tokCells t) rfl hnews (by omega) (by unfold maxLen; omega) hbig
      rw [hrun2] at hrun
      simp only [Result.ok.injEq] at hrun
      obtain ⟨rfl, rfl⟩ := hrun
      exact ⟨(q1.lt g' rfl).1, q2⟩
theorem wpListIn_tok {F : Fence} {m : Nat} {w : World} {ops : Array Oper} {rest : List Oper} {o : Oper} {a : Go.Act} {Q : Exit → Go.Act → World → Prop} (hgd : o.guard = none) (sx x : Operand)
    (ho : o.op = .call { callee := .builtin .append, args := #[sx, x], argTypes := #[23, 23] }) (base : Nat) (s : Value) (n : Nat) (xs : List Value) (t : Tok) (hs : a.eval sx = s) (hown : w.ownsRow base 37 5 s n xs) (hbase : base ≤ w.heap.size) (c cc : Nat) (hx : a.eval x = .slice (some ⟨c, 0, none⟩) 1 cc) (hc : w.heap[c]? = some (.cells (tokCells t).toArray 37 (0, 0))) (hn : n ≤ 8589934592)
    (h : ∀ g' c' w', w'.ownsRow base 37 5 (.slice (some ⟨g', 0, none⟩) (n + 1) c') (n + 1) (xs ++ tokCells t) → w.grownBy w' s.ownBlock → (s = .slice (some ⟨g', 0, none⟩) n c' ∨ (w.heap.size ≤ g' ∧ w.grownBy w' none)) → wpListIn F m Tryz.prog ops Q rest (a.put o.dst (.slice (some ⟨g', 0, none⟩) (n + 1) c')) w') :
    wpListIn F m Tryz.prog ops Q (o :: rest) a w := by
  refine wpListIn_plain hgd fun K hK' => ?_
  obtain ⟨g', c', w', hrun, r1, r2, r3⟩ := tok_tell (w := w) o.type base s n xs t hown hbase c cc hc hn
  unfold Oper.wpIn
  refine ⟨?_, ?_⟩
  · simp [Oper.about, ho, resolve, Target.leads, Sem.run_pure]
  · rw [Oper.semAt_plain F _ _ (by rw [ho]; intro c hc'; cases hc')]
    simp [execOp, ho, resolve, invoke, builtin, hs, hx, hrun, Result.andThen]
    exact hK' _ _ (h g' c' w' r1 r2 r3)
end Go.Proofs.YthhbhfpdabiclaaGreatDoor.L12
