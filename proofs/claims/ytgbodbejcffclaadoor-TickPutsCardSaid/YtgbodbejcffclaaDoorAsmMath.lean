/- Package asm: a list of instructions with marks, as numbers and names. -/
import Derived.Test.YtgbodbejcffclaaDoorInstMath
import Derived.Test.YtgbodbejcffclaaDoorFileMath
import Derived.Maps.OwnSet
import Derived.Maps.Views
namespace Go.Proofs.YtgbodbejcffclaaDoor.A7
open Go.RowKit Go.Maps
set_option linter.unusedVariables false
/-- A jump: where it stands, what it is, where it goes. -/
structure AJ where
  pos : Nat
  op : Int
  rd : Int
  nm : ByteArray
/-- A list: its instructions' words, its marks, its jumps. -/
structure AS where
  n : Nat
  ws : Nat → Int
  ms : List (ByteArray × Nat)
  js : List AJ
/-- A list without instructions. -/
def AS.nil : AS := ⟨0, fun _ => 0, [], []⟩
def AS.add (q : AS) (u : Int) : AS := { q with n := q.n + 1, ws := F3.upd q.ws q.n u }
def AS.adds (q : AS) (f : Nat → Int) : Nat → AS
  | 0 => q
  | k + 1 => (q.adds f k).add (f k)
theorem AS.adds_n (q : AS) (f : Nat → Int) : ∀ k, (q.adds f k).n = q.n + k
  | 0 => rfl
  | k + 1 => by simp only [AS.adds, AS.add, AS.adds_n q f k]; omega
theorem AS.adds_ms (q : AS) (f : Nat → Int) : ∀ k, (q.adds f k).ms = q.ms
  | 0 => rfl
  | k + 1 => by simp only [AS.adds, AS.add, AS.adds_ms q f k]
theorem AS.adds_js (q : AS) (f : Nat → Int) : ∀ k, (q.adds f k).js = q.js
  | 0 => rfl
  | k + 1 => by simp only [AS.adds, AS.add, AS.adds_js q f k]
/-- The place of a mark. -/
def look (l : List (ByteArray × Nat)) (s : ByteArray) : Option Nat := l.foldl (fun r p => if p.1 = s then some p.2 else r) none
theorem look_nil (s : ByteArray) : look [] s = none := rfl
theorem look_snoc (l : List (ByteArray × Nat)) (k : ByteArray) (v : Nat) (s : ByteArray) : look (l ++ [(k, v)]) s = if k = s then some v else look l s := by
  simp [look, List.foldl_append]
def AS.mark (q : AS) (s : ByteArray) : AS := { q with ms := q.ms ++ [(s, q.n)] }
def AS.jump (q : AS) (op rd : Int) (s : ByteArray) : AS := { q.add (I2.enc op rd 0 0 true 0) with js := q.js ++ [⟨q.n, op, rd, s⟩] }
/-- The word of a jump whose name stands at t. -/
def AJ.word (j : AJ) (t : Nat) : Int := I2.enc j.op j.rd 0 0 true ((t : Int) - j.pos)
/-- Words as they are when the jumps are complete: none if a name is no mark. -/
def fin (ms : List (ByteArray × Nat)) : List AJ → (Nat → Int) → Option (Nat → Int)
  | [], f => some f
  | j :: l, f => match look ms j.nm with
    | none => none
    | some t => fin ms l (F3.upd f j.pos (j.word t))
def AS.words (q : AS) : Option (Nat → Int) := fin q.ms q.js q.ws
/-! The marks as the model reads them. -/
def key (s : ByteArray) : Lit := .string s.data.toList
theorem key_is (s : ByteArray) : WideAt.IsKeyLit (key s) := by unfold key WideAt.IsKeyLit; trivial
theorem key_inj {a b : ByteArray} (h : key a = key b) : a = b := by
  unfold key at h
  injection h with h
  cases a; cases b
  simp at h
  congr 1
def mD (l : List (ByteArray × Nat)) : DataW Unit := l.foldl (fun D p => D.put (key p.1) (.lit (.int .i64 p.2))) (.map [])
theorem mD_snoc (l : List (ByteArray × Nat)) (k : ByteArray) (v : Nat) : mD (l ++ [(k, v)]) = (mD l).put (key k) (.lit (.int .i64 v)) := by
  simp [mD, List.foldl_append]
theorem mD_map (l : List (ByteArray × Nat)) : IsMap (mD l) := by
  have : ∀ (l : List (ByteArray × Nat)) (D : DataW Unit), IsMap D → IsMap (l.foldl (fun D p => D.put (key p.1) (.lit (.int .i64 p.2))) D) := by
    intro l
    induction l with
    | nil => intro D h; exact h
    | cons p l ih => intro D h; exact ih _ (h.put _ _)
  exact this l _ isMap_empty
theorem snocs {α : Type} {P : List α → Prop} (h0 : P []) (h1 : ∀ l x, P l → P (l ++ [x])) (l : List α) : P l := by
  have : ∀ r : List α, P r.reverse := by
    intro r
    induction r with
    | nil => exact h0
    | cons x r ih => rw [List.reverse_cons]; exact h1 _ _ ih
  simpa using this l.reverse
theorem mD_has (l : List (ByteArray × Nat)) (s : ByteArray) : Maps.has (mD l) (key s) = (look l s).isSome := by
  refine snocs (P := fun l => Maps.has (mD l) (key s) = (look l s).isSome) rfl (fun l x ih => ?_) l
  obtain ⟨k, v⟩ := x
  rw [mD_snoc, look_snoc]
  by_cases e : k = s
  · subst e; rw [has_put_same (mD_map l) (key_is _), if_pos rfl]; rfl
  · rw [has_put_other (fun h => e (key_inj h).symm), if_neg e]; exact ih
theorem mD_at (l : List (ByteArray × Nat)) (s : ByteArray) (z : Int) : (mD l).atKey (key s) (.lit (.int .i64 z)) = .lit (.int .i64 (match look l s with | some v => (v : Int) | none => z)) := by
  refine snocs (P := fun l => (mD l).atKey (key s) (.lit (.int .i64 z)) = .lit (.int .i64 (match look l s with | some v => (v : Int) | none => z))) rfl (fun l x ih => ?_) l
  obtain ⟨k, v⟩ := x
  rw [mD_snoc, look_snoc]
  by_cases e : k = s
  · subst e; rw [atKey_put_same (mD_map l) (key_is _), if_pos rfl]
  · rw [atKey_put_other (fun h => e (key_inj h).symm), if_neg e]; exact ih
end Go.Proofs.YtgbodbejcffclaaDoor.A7
