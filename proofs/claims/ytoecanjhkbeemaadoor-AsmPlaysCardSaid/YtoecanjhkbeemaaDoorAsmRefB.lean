/- The document's lists (layer 7): At, Parts. -/
import Derived.Test.YtoecanjhkbeemaaDoorAsmRefA
import Derived.Lib.SlicesS
namespace Go.Proofs.YtoecanjhkbeemaaDoor.A7
open Go.RowKit Go.Maps
set_option linter.unusedVariables false
/-- The first mark of a name. -/
def first : List (ByteArray × Nat) → ByteArray → Option Nat
  | [], _ => none
  | p :: l, s => if p.1 = s then some p.2 else first l s
theorem first_snoc (k : ByteArray) (v : Nat) (s : ByteArray) : ∀ l, first (l ++ [(k, v)]) s = match first l s with | some x => some x | none => if k = s then some v else none
  | [] => rfl
  | p :: l => by
    simp only [List.cons_append, first]
    by_cases e : p.1 = s
    · simp [e]
    · simp only [e, if_false]; exact first_snoc k v s l
/-- Marks of which no two have one name. -/
inductive UM : List (ByteArray × Nat) → Prop
  | nil : UM []
  | snoc (l : List (ByteArray × Nat)) (k : ByteArray) (v : Nat) : UM l → look l k = none → UM (l ++ [(k, v)])
theorem UM.first {l : List (ByteArray × Nat)} (h : UM l) (s : ByteArray) : first l s = look l s := by
  induction h with
  | nil => rfl
  | snoc l k v _ hk ih =>
    rw [first_snoc, look_snoc, ih]
    by_cases e : k = s
    · subst e; rw [hk]
    · simp only [e, if_false]; cases look l s <;> simp
theorem mkCells_at : ∀ (ms : List (ByteArray × Nat)) (i : Nat) (p : ByteArray × Nat), ms[i]? = some p → (mkCells ms)[i * 2]? = some (.string p.1) ∧ (mkCells ms)[i * 2 + 1]? = some (.int .i64 p.2)
  | [], i, p, h => by simp at h
  | q :: ms, 0, p, h => by simp at h; subst h; exact ⟨rfl, rfl⟩
  | q :: ms, i + 1, p, h => by
    have := mkCells_at ms i p (by simpa using h)
    have e : mkCells (q :: ms) = .string q.1 :: .int .i64 q.2 :: mkCells ms := rfl
    rw [e, show (i + 1) * 2 = i * 2 + 2 by omega, show i * 2 + 2 + 1 = i * 2 + 1 + 2 by omega]
    simpa using this
theorem first_drop (ms : List (ByteArray × Nat)) (s : ByteArray) (j : Nat) (p : ByteArray × Nat) (h : ms[j]? = some p) : first (ms.drop j) s = if p.1 = s then some p.2 else first (ms.drop (j + 1)) s := by
  obtain ⟨hj, e⟩ := List.getElem?_eq_some_iff.1 h
  rw [List.drop_eq_getElem_cons hj, e]
  rfl
theorem beq_bytes {a b : ByteArray} (h : (a.toList == b.toList) = true) : a = b := by
  exact (Lib.bytes_beq_iff _ _).1 h
theorem nbeq_bytes {a b : ByteArray} (h : (a.toList == b.toList) = false) : ¬ a = b := fun e => by subst e; simp at h
def rAtV (ms : List (ByteArray × Nat)) (s : ByteArray) : Int := match first ms s with | some v => (v : Int) | none => 0
def rAtE (ms : List (ByteArray × Nat)) (s : ByteArray) : Int := match first ms s with | some _ => 0 | none => 7
set_option maxHeartbeats 2000000 in
theorem refAt_any {w : World} {lv mv : Value} {l : List It} {ms : List (ByteArray × Nat)} (s : ByteArray) (h : RL w lv mv l ms) :
    Calls Tryd.prog 30 #[.agg #[lv, mv], .string s] w fun e w' => e = .returned (.tuple #[.int .i64 (rAtV ms s), .int .i64 (rAtE ms s)]) ∧ Below w.heap.size w w' := by
  have V0 : Below w.heap.size w (w.alloc (.cells #[lv, mv] 30)) := (Below.refl _ _).alloc (Nat.le_refl _) _
  have H1 := (h.bel V0).marks
  have HM := h.mn
  obtain ⟨mp, mc, hmv, hcs⟩ : ∃ p c, mv = .slice p ms.length c ∧ (0 < ms.length → ∃ g, p = some ⟨g, 0, none⟩) := by
    rcases ownK_of h.marks with ⟨rfl, h0⟩ | ⟨g, c, rfl⟩
    · exact ⟨_, _, by rw [h0], fun e => by omega⟩
    · exact ⟨_, _, rfl, fun _ => ⟨g, rfl⟩⟩
  obtain ⟨lp, lc, hlv⟩ : ∃ p c, lv = .slice p l.length c := by
    rcases ownK_of h.row with ⟨rfl, h0⟩ | ⟨g, c, rfl⟩
    · exact ⟨_, _, by rw [h0]⟩
    · exact ⟨_, _, rfl⟩
  subst hmv hlv
  have H1 := Lib.hid H1
  have HCS := Lib.hid hcs
  have V1 := Lib.hid V0
  have b1 : (w.alloc (.cells #[.slice lp l.length lc, .slice mp ms.length mc] 30)).cell? ⟨w.heap.size, 1, none⟩ = some (.slice mp ms.length mc) := cell_of_row _ _ _ _ _ _ (heap_alloc_last _ _)
  have lz : w.heap.size < (w.alloc (.cells #[.slice lp l.length lc, .slice mp ms.length mc] 30)).heap.size := by simp
  clear h hcs V0
  go_enter Tryd.func30, Tryd.ntmps30
  go_upto_region 1 with (fail)
  generalize w.alloc (.cells #[.slice lp l.length lc, .slice mp ms.length mc] 30) = V at H1 V1 b1 lz ⊢
  go_wp2_with fail
  go_loopw [6] (fun i wr => ∃ j : Nat, j ≤ ms.length ∧ i = .int .i64 j ∧ first (ms.drop j) s = first ms s ∧ wr = V) (fun i _ => ms.length - (intOf i).toNat)
  case atStart => exact ⟨0, Nat.zero_le _, rfl, by simp, rfl⟩
  case round =>
    obtain ⟨j, hj, rfl, hf, rfl⟩ := hrel
    by_cases hlt : j < ms.length
    · obtain ⟨g, rfl⟩ := HCS.out (by omega)
      obtain ⟨p, hp⟩ : ∃ p, ms[j]? = some p := ⟨_, List.getElem?_eq_getElem hlt⟩
      have c0 := ownK_cell H1.out _ _ (mkCells_at ms j p hp).1
      have c1 := ownK_cell H1.out _ _ (mkCells_at ms j p hp).2
      have hg := block_lt_of_cell c0
      rw [Nat.zero_add] at c0 c1
      have hd := first_drop ms s j p hp
      rw [hf] at hd
      obtain ⟨nm, at_⟩ := p
      have HD := Lib.hid hd
      have HLT := Lib.hid hlt
      clear hd hf hp
      simp only at c0 c1
      go_wp2_with fail
      · rename_i he
        obtain rfl := beq_bytes he
        have hv : first ms nm = some at_ := by rw [HD.out]; exact if_pos rfl
        refine bodyPost_ret (v := .tuple #[.int .i64 at_, .int .i64 0]) (by simp [results, Tryd.results30, go_sem]) rfl ⟨?_, V1.out⟩
        simp only [rAtV, rAtE, hv]
      · rename_i he
        have hne := nbeq_bytes he
        have hv : first (ms.drop (j + 1)) s = first ms s := by rw [HD.out]; exact (if_neg hne).symm
        exact ⟨⟨j + 1, HLT.out, rfl, hv, trivial⟩, by have := HLT.out; simp only [intOf]; omega⟩
    · obtain rfl : j = ms.length := by omega
      have hv : first ms s = none := by rw [← hf]; simp [first]
      have HV := Lib.hid hv
      clear hf hv
      go_wp2_with fail
      refine bodyPost_ret (v := .tuple #[.int .i64 0, .int .i64 7]) (by simp [results, Tryd.results30, go_sem]) rfl ⟨?_, V1.out⟩
      simp only [rAtV, rAtE, HV.out]
end Go.Proofs.YtoecanjhkbeemaaDoor.A7
