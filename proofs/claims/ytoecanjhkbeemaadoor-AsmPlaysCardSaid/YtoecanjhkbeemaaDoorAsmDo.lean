/- What is done to a list, on both sides, as numbers and names (plain). -/
import Derived.Test.YtoecanjhkbeemaaDoorAsmRefB
namespace Go.Proofs.YtoecanjhkbeemaaDoor.A7
open Go.RowKit Go.Maps
set_option linter.unusedVariables false
/-- An act: what, the instructions, the name, the condition or register, the constant. -/
structure Ac where
  what : Int
  k : Nat
  X : Nat → XI
  nm : ByteArray
  c : Int
  u : Int
/-- May all of the instructions be? -/
def allMay (k : Nat) (X : Nat → XI) : Bool := (List.range k).all fun i => (X i).may
theorem allMay_yes {k : Nat} {X : Nat → XI} (h : ∀ i, i < k → (X i).may = true) : allMay k X = true := by
  unfold allMay; rw [List.all_eq_true]; intro i hi; exact h i (List.mem_range.1 hi)
theorem allMay_no {k : Nat} {X : Nat → XI} {i : Nat} (hi : i < k) (h : (X i).may = false) : allMay k X = false := by
  unfold allMay; rw [List.all_eq_false]; exact ⟨i, List.mem_range.2 hi, by simp [h]⟩
/-- The list behind an act. -/
def doA (q : AS) (a : Ac) : AS :=
  if a.what % 5 = 0 then (if allMay a.k a.X then q.adds (fun i => (a.X i).word) a.k else q)
  else if a.what % 5 = 1 then (if (look q.ms a.nm).isSome then q else q.mark a.nm)
  else if a.what % 5 = 2 then (if a.c ≤ 6 then q.jump 17 a.c a.nm else q)
  else if a.what % 5 = 3 then q.jump 18 0 a.nm
  else (if a.c ≤ 31 then q.adds (fun i => (cX a.c a.u i).word) (cK a.u) else q)
/-- The document's list behind an act. -/
def doL (l : List It) (ms : List (ByteArray × Nat)) (a : Ac) : List It :=
  if a.what % 5 = 0 then (if allMay a.k a.X then l ++ its a.X a.k else l)
  else if a.what % 5 = 1 then l
  else if a.what % 5 = 2 then (if a.c ≤ 6 then l ++ [⟨⟨17, a.c, 0, 0, true, 0⟩, true, a.nm⟩] else l)
  else if a.what % 5 = 3 then l ++ [⟨⟨18, 0, 0, 0, true, 0⟩, true, a.nm⟩]
  else (if a.c ≤ 31 then l ++ its (cX a.c a.u) (cK a.u) else l)
def doM (l : List It) (ms : List (ByteArray × Nat)) (a : Ac) : List (ByteArray × Nat) :=
  if a.what % 5 = 1 then (if (look ms a.nm).isSome then ms else ms ++ [(a.nm, l.length)]) else ms
/-- The word of an item as it stands before the jumps are complete. -/
def It.word (t : It) : Int := if t.j then I2.enc t.x.o t.x.d 0 0 true 0 else t.x.word
/-- The jumps of a list whose first item stands at p. -/
def jl : Nat → List It → List AJ
  | _, [] => []
  | p, t :: l => (if t.j then [⟨p, t.x.o, t.x.d, t.dest⟩] else []) ++ jl (p + 1) l
theorem jl_append : ∀ (l m : List It) (p : Nat), jl p (l ++ m) = jl p l ++ jl (p + l.length) m
  | [], m, p => by simp [jl]
  | t :: l, m, p => by
    have e : p + (t :: l).length = p + 1 + l.length := by simp; omega
    simp only [List.cons_append, jl, jl_append l m (p + 1), List.append_assoc, e]
theorem jl_its (X : Nat → XI) (k p : Nat) : jl p (its X k) = [] := by
  induction k with
  | zero => rfl
  | succ k ih => rw [its_succ, jl_append, ih]; rfl
/-- A list and the document's have the same. -/
structure Rel (q : AS) (l : List It) (ms : List (ByteArray × Nat)) : Prop where
  n : q.n = l.length
  mks : q.ms = ms
  um : UM ms
  ws : ∀ i t, l[i]? = some t → q.ws i = t.word
  js : q.js = jl 0 l
/-- A list whose errors are the document's: perhaps there stand some instructions ahead. -/
structure Like (q : AS) (l : List It) (ms : List (ByteArray × Nat)) : Prop where
  n : q.n ≤ l.length + 60
  len : q.ms.length = ms.length
  um : UM ms
  at_ : ∀ s, (look q.ms s).isSome = (look ms s).isSome
theorem Rel.like {q : AS} {l : List It} {ms : List (ByteArray × Nat)} (h : Rel q l ms) : Like q l ms := ⟨by rw [h.n]; omega, by rw [h.mks], h.um, fun s => by rw [h.mks]⟩
theorem Like.noMark {q : AS} {l : List It} {ms : List (ByteArray × Nat)} (h : Like q l ms) {s : ByteArray} (hl : look ms s = none) : look q.ms s = none := by
  have := h.at_ s
  rw [hl] at this
  simpa using this
theorem Like.hasMark {q : AS} {l : List It} {ms : List (ByteArray × Nat)} (h : Like q l ms) {s : ByteArray} {t : Nat} (hl : look ms s = some t) : (look q.ms s).isSome = true := by
  rw [h.at_ s, hl]; rfl
theorem Rel.nil : Rel AS.nil [] [] := ⟨rfl, rfl, .nil, fun i t h => by simp at h, rfl⟩
theorem Rel.snoc {q : AS} {l : List It} {ms : List (ByteArray × Nat)} (h : Rel q l ms) (t : It) (q' : AS) (hn : q'.n = q.n + 1) (hm : q'.ms = q.ms) (hw : q'.ws = F3.upd q.ws q.n t.word) (hj : q'.js = q.js ++ jl q.n [t]) : Rel q' (l ++ [t]) ms where
  n := by rw [hn, h.n]; simp
  mks := by rw [hm, h.mks]
  um := h.um
  ws := fun i s hi => by
    rw [hw, h.n]
    rcases Nat.lt_trichotomy i l.length with e | e | e
    · rw [List.getElem?_append_left e] at hi
      unfold F3.upd
      rw [if_neg (by omega)]
      exact h.ws i s hi
    · subst e
      simp at hi
      subst hi
      simp [F3.upd]
    · rw [List.getElem?_eq_none (by simp; omega)] at hi; cases hi
  js := by rw [hj, jl_append, h.js, h.n, Nat.zero_add]
theorem Rel.adds {q : AS} {l : List It} {ms : List (ByteArray × Nat)} (h : Rel q l ms) (X : Nat → XI) : ∀ k, Rel (q.adds (fun i => (X i).word) k) (l ++ its X k) ms
  | 0 => by simpa [its, AS.adds] using h
  | k + 1 => by
    rw [its_succ, ← List.append_assoc]
    have hk := Rel.adds h X k
    exact hk.snoc ⟨X k, false, ByteArray.empty⟩ _ rfl rfl rfl (by simp [jl, AS.adds, AS.add])
theorem Rel.jump {q : AS} {l : List It} {ms : List (ByteArray × Nat)} (h : Rel q l ms) (o d : Int) (s : ByteArray) : Rel (q.jump o d s) (l ++ [⟨⟨o, d, 0, 0, true, 0⟩, true, s⟩]) ms :=
  h.snoc ⟨⟨o, d, 0, 0, true, 0⟩, true, s⟩ _ rfl rfl rfl rfl
theorem Rel.mark {q : AS} {l : List It} {ms : List (ByteArray × Nat)} (h : Rel q l ms) (s : ByteArray) (hs : look ms s = none) : Rel (q.mark s) l (ms ++ [(s, l.length)]) :=
  ⟨h.n, by simp only [AS.mark, h.mks, h.n], .snoc _ _ _ h.um hs, h.ws, h.js⟩
theorem Rel.does {q : AS} {l : List It} {ms : List (ByteArray × Nat)} (h : Rel q l ms) (a : Ac) : Rel (doA q a) (doL l ms a) (doM l ms a) := by
  unfold doA doL doM
  by_cases h0 : a.what % 5 = 0
  · have h1 : ¬ a.what % 5 = 1 := by omega
    rw [if_pos h0, if_pos h0, if_neg h1]
    split
    · exact h.adds _ _
    · exact h
  · rw [if_neg h0, if_neg h0]
    by_cases h1 : a.what % 5 = 1
    · rw [if_pos h1, if_pos h1, if_pos h1, h.mks]
      cases hl : look ms a.nm with
      | none => simpa using h.mark a.nm hl
      | some t => simpa using h
    · rw [if_neg h1, if_neg h1, if_neg h1]
      by_cases h2 : a.what % 5 = 2
      · rw [if_pos h2, if_pos h2]
        split
        · exact h.jump _ _ _
        · exact h
      · rw [if_neg h2, if_neg h2]
        by_cases h3 : a.what % 5 = 3
        · rw [if_pos h3, if_pos h3]
          exact h.jump _ _ _
        · rw [if_neg h3, if_neg h3]
          split
          · exact h.adds _ _
          · exact h
end Go.Proofs.YtoecanjhkbeemaaDoor.A7
