/- Two lists, of which the second one has some instructions ahead (layer 7, plain): the same acts, the same words behind these. -/
import Derived.Test.YtoecanjhkbeemaaDoorAsmDo
import Derived.Test.YtoecanjhkbeemaaDoorAsmJump
namespace Go.Proofs.YtoecanjhkbeemaaDoor.A7
open Go.RowKit Go.Maps
set_option linter.unusedVariables false
structure Shift (k : Nat) (qa qb : AS) : Prop where
  n : qb.n = k + qa.n
  ms : qb.ms = qa.ms.map fun p => (p.1, p.2 + k)
  js : qb.js = qa.js.map fun j => { j with pos := j.pos + k }
  ws : ∀ i, i < qa.n → qb.ws (k + i) = qa.ws i
theorem look_map (k : Nat) (ms : List (ByteArray × Nat)) (s : ByteArray) : look (ms.map fun p => (p.1, p.2 + k)) s = (look ms s).map (· + k) := by
  refine snocs (P := fun ms => look (ms.map fun p => (p.1, p.2 + k)) s = (look ms s).map (· + k)) rfl (fun l x ih => ?_) ms
  obtain ⟨y, v⟩ := x
  rw [List.map_append]
  show look (l.map (fun p => (p.1, p.2 + k)) ++ [(y, v + k)]) s = _
  rw [look_snoc, look_snoc]
  by_cases e : y = s
  · rw [if_pos e, if_pos e]; rfl
  · rw [if_neg e, if_neg e]; exact ih
theorem Shift.nil (f : Nat → Int) (k : Nat) : Shift k AS.nil (AS.nil.adds f k) where
  n := by rw [AS.adds_n]; simp [AS.nil]
  ms := by rw [AS.adds_ms]; rfl
  js := by rw [AS.adds_js]; rfl
  ws := fun i hi => absurd hi (Nat.not_lt_zero _)
theorem Shift.add {k : Nat} {qa qb : AS} (h : Shift k qa qb) (u : Int) : Shift k (qa.add u) (qb.add u) where
  n := by simp only [AS.add, h.n]; omega
  ms := h.ms
  js := h.js
  ws := fun i hi => by
    simp only [AS.add] at hi ⊢
    unfold F3.upd
    rw [h.n]
    by_cases e : i = qa.n
    · subst e; rw [if_pos rfl, if_pos rfl]
    · rw [if_neg (by omega), if_neg e]; exact h.ws i (by omega)
theorem Shift.adds {k : Nat} {qa qb : AS} (h : Shift k qa qb) (f : Nat → Int) : ∀ m, Shift k (qa.adds f m) (qb.adds f m)
  | 0 => h
  | m + 1 => (Shift.adds h f m).add (f m)
theorem Shift.mark {k : Nat} {qa qb : AS} (h : Shift k qa qb) (s : ByteArray) : Shift k (qa.mark s) (qb.mark s) where
  n := h.n
  ms := by simp only [AS.mark, h.ms, h.n, List.map_append, List.map_cons, List.map_nil]; rw [Nat.add_comm k qa.n]
  js := h.js
  ws := h.ws
theorem Shift.jump {k : Nat} {qa qb : AS} (h : Shift k qa qb) (o d : Int) (s : ByteArray) : Shift k (qa.jump o d s) (qb.jump o d s) where
  n := (h.add (I2.enc o d 0 0 true 0)).n
  ms := (h.add (I2.enc o d 0 0 true 0)).ms
  js := by simp only [AS.jump, h.js, h.n, List.map_append, List.map_cons, List.map_nil]; rw [Nat.add_comm k qa.n]
  ws := (h.add (I2.enc o d 0 0 true 0)).ws
theorem Shift.doA {k : Nat} {qa qb : AS} (h : Shift k qa qb) (a : Ac) : Shift k (doA qa a) (doA qb a) := by
  have e : (look qb.ms a.nm).isSome = (look qa.ms a.nm).isSome := by rw [h.ms, look_map]; cases look qa.ms a.nm <;> rfl
  unfold A7.doA
  rw [e]
  split
  · split
    · exact h.adds _ _
    · exact h
  split
  · split
    · exact h
    · exact h.mark _
  split
  · split
    · exact h.jump _ _ _
    · exact h
  split
  · exact h.jump _ _ _
  split
  · exact h.adds _ _
  · exact h
/-- Words that are the same behind k ahead. -/
def SameBehind (k n : Nat) : Option (Nat → Int) → Option (Nat → Int) → Prop
  | none, none => True
  | some f, some g => ∀ i, i < n → g (k + i) = f i
  | _, _ => False
theorem fin_shift (k n : Nat) (ms : List (ByteArray × Nat)) : ∀ (js : List AJ) (f g : Nat → Int), (∀ i, i < n → g (k + i) = f i) → (∀ j ∈ js, j.pos < n) → SameBehind k n (fin ms js f) (fin (ms.map fun p => (p.1, p.2 + k)) (js.map fun j => { j with pos := j.pos + k }) g)
  | [], f, g, h, _ => h
  | j :: js, f, g, h, hp => by
    have hj := hp j (by simp)
    simp only [List.map_cons, fin, look_map]
    cases hl : look ms j.nm with
    | none => trivial
    | some t =>
      refine fin_shift k n ms js _ _ (fun i hi => ?_) (fun j' h' => hp j' (by simp [h']))
      have e : ({ j with pos := j.pos + k } : AJ).word (t + k) = j.word t := by
        unfold AJ.word
        have e9 : ((t + k : Nat) : Int) - ((j.pos + k : Nat) : Int) = (t : Int) - (j.pos : Int) := by omega
        exact congrArg (I2.enc j.op j.rd 0 0 true) e9
      unfold F3.upd
      rw [e]
      by_cases hi' : i = j.pos
      · subst hi'; rw [if_pos (by omega), if_pos rfl]
      · rw [if_neg (show ¬ k + i = j.pos + k by omega), if_neg hi']; exact h i hi
theorem Shift.words {k : Nat} {qa qb : AS} (h : Shift k qa qb) (hp : ∀ j ∈ qa.js, j.pos < qa.n) : SameBehind k qa.n qa.words qb.words := by
  unfold AS.words
  rw [h.ms, h.js]
  exact fin_shift k qa.n qa.ms qa.js qa.ws qb.ws h.ws hp
theorem Shift.like {k : Nat} {qa qb : AS} {l : List It} {ms : List (ByteArray × Nat)} (h : Shift k qa qb) (r : Rel qa l ms) (hk : k ≤ 60) : Like qb l ms where
  n := by rw [h.n, r.n]; omega
  len := by rw [h.ms, List.length_map, r.mks]
  um := r.um
  at_ := fun s => by rw [h.ms, look_map, r.mks]; cases look ms s <;> rfl
/-! How much there is behind acts. -/
theorem doL_len (l : List It) (ms : List (ByteArray × Nat)) (a : Ac) : (doL l ms a).length ≤ l.length + a.k + 2 := by
  have h2 := cK_le a.u
  unfold doL
  split
  · split
    · rw [List.length_append, its_len]; omega
    · omega
  split
  · omega
  split
  · split
    · rw [List.length_append]; simp only [List.length_cons, List.length_nil]; omega
    · omega
  split
  · rw [List.length_append]; simp only [List.length_cons, List.length_nil]; omega
  split
  · rw [List.length_append, its_len]; omega
  · omega
theorem doM_len (l : List It) (ms : List (ByteArray × Nat)) (a : Ac) : (doM l ms a).length ≤ ms.length + 1 := by
  unfold doM
  split
  · split
    · omega
    · rw [List.length_append]; simp
  · omega
end Go.Proofs.YtoecanjhkbeemaaDoor.A7
