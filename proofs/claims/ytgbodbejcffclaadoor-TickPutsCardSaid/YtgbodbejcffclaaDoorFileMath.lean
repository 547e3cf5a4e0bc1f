/- Plain arithmetic of layer 3 (file), which imports nothing of the translation: where a register lies, what a list of all that was set says of it, and that the two keep step. -/
import Derived.RowKit
import Derived.Laws.Entries
namespace Go.Proofs.YtgbodbejcffclaaDoor.F3

/-- The place of a register among a file's words: the windows, sixteen words each, then the banks, eight words each. -/
def loc (n win bank reg : Int) : Nat :=
  (if reg < 8 then 512 + 8 * bank + reg else if reg < 16 then 16 * (if win = 0 then n - 1 else win - 1) + reg else 16 * win + reg - 16).toNat
/-- Which numbers a register may be called by. -/
def Named (n win bank reg : Int) : Prop := 0 ≤ win ∧ win < n ∧ 0 ≤ bank ∧ bank < 17 ∧ 0 ≤ reg ∧ reg < 32
theorem loc_lt {n win bank reg : Int} (hn : n ≤ 32) (h : Named n win bank reg) : loc n win bank reg < 648 := by
  obtain ⟨h1, h2, h3, h4, h5, h6⟩ := h
  unfold loc
  split
  · omega
  · split
    · split <;> omega
    · omega
theorem loc_global {n win bank reg : Int} (h : reg < 8) : loc n win bank reg = (512 + 8 * bank + reg).toNat := by unfold loc; rw [if_pos h]
theorem loc_out0 {n bank reg : Int} (h : 8 ≤ reg) (h' : reg < 16) : loc n 0 bank reg = (16 * (n - 1) + reg).toNat := by
  unfold loc; rw [if_neg (by omega), if_pos h', if_pos rfl]
theorem loc_out {n win bank reg : Int} (h : 8 ≤ reg) (h' : reg < 16) (hw : win ≠ 0) : loc n win bank reg = (16 * (win - 1) + reg).toNat := by
  unfold loc; rw [if_neg (by omega), if_pos h', if_neg hw]
theorem loc_own {n win bank reg : Int} (h : 16 ≤ reg) : loc n win bank reg = (16 * win + reg - 16).toNat := by
  unfold loc; rw [if_neg (by omega), if_neg (by omega)]

/-- A word of a file's words, set. -/
def upd (R : Nat → Int) (j : Nat) (v : Int) : Nat → Int := fun i => if i = j then v else R i
theorem upd_same (R : Nat → Int) (j : Nat) (v : Int) : upd R j v j = v := by simp [upd]
theorem upd_ne (R : Nat → Int) {i j : Nat} (v : Int) (h : i ≠ j) : upd R j v i = R i := by simp [upd, h]
/-- What a Set makes of a file's words: g0 stays. -/
def setR (R : Nat → Int) (n win bank reg v : Int) : Nat → Int := if reg = 0 then R else upd R (loc n win bank reg) v
/-- What a Put makes of them. -/
def putR (R : Nat → Int) (win : Int) (X : List Int) : Nat → Int := fun j => if (16 * win).toNat ≤ j ∧ j < (16 * win).toNat + 16 then X.getD (j - (16 * win).toNat) 0 else R j

/-! The document's file: a list of all that was set. -/
abbrev Cel := Int × Int × Int
abbrev Ent := Cel × Int
def cellOf (j : Nat) : Cel := if j < 512 then (if j % 16 < 8 then (1, (j / 16 : Nat), (j % 16 : Nat)) else (2, (j / 16 : Nat), (j % 16 : Nat) - 8)) else (0, ((j - 512) / 8 : Nat), ((j - 512) % 8 : Nat))
def place (n win bank reg : Int) : Cel :=
  if reg < 8 then (0, bank, reg) else if reg < 16 then (2, (win + n - 1) % n, reg - 8) else if reg < 24 then (1, win, reg - 16) else (2, win, reg - 24)
def lastW (l : List Ent) (c : Cel) : Int := l.foldl (fun a e => if e.1 = c then e.2 else a) 0
def atL (l : List Ent) (c : Cel) : Int := if c.1 = 0 ∧ c.2.2 = 0 then 0 else lastW l c
theorem lastW_snoc (l : List Ent) (e : Ent) (c : Cel) : lastW (l ++ [e]) c = if e.1 = c then e.2 else lastW l c := by simp [lastW, List.foldl_append]
theorem before_mod {n win : Int} (h0 : 0 ≤ win) (h1 : win < n) : (win + n - 1) % n = if win = 0 then n - 1 else win - 1 := by
  split
  · subst win; rw [Int.emod_eq_of_lt (by omega) (by omega)]; omega
  · rw [show win + n - 1 = (win - 1) + n by omega, Int.add_emod_right, Int.emod_eq_of_lt (by omega) (by omega)]
theorem cellOf_loc {n win bank reg : Int} (hn : n ≤ 32) (h : Named n win bank reg) : cellOf (loc n win bank reg) = place n win bank reg := by
  obtain ⟨h1, h2, h3, h4, h5, h6⟩ := h
  unfold place
  rw [before_mod h1 h2]
  unfold loc cellOf
  by_cases a : reg < 8
  · rw [if_pos a, if_pos a, if_neg (by omega)]; refine Prod.ext rfl (Prod.ext ?_ ?_) <;> simp only <;> omega
  rw [if_neg a, if_neg a]
  by_cases b : reg < 16
  · rw [if_pos b, if_pos b]
    split <;> (rw [if_pos (by omega), if_neg (by omega)]; refine Prod.ext rfl (Prod.ext ?_ ?_) <;> simp only <;> omega)
  rw [if_neg b, if_neg b, if_pos (by omega)]
  by_cases c : reg < 24
  · rw [if_pos c, if_pos (by omega)]; refine Prod.ext rfl (Prod.ext ?_ ?_) <;> simp only <;> omega
  · rw [if_neg c, if_neg (by omega)]; refine Prod.ext rfl (Prod.ext ?_ ?_) <;> simp only <;> omega
theorem cellOf_inj {i j : Nat} (hi : i < 648) (hj : j < 648) (h : cellOf i = cellOf j) : i = j := by
  unfold cellOf at h
  have h1 := congrArg Prod.fst h
  have h2 := congrArg (fun x => x.2.1) h
  have h3 := congrArg (fun x => x.2.2) h
  clear h
  split at h1 <;> split at h1 <;> (try split at h1) <;> (try split at h1) <;> (first | (exact absurd h1 (by decide)) | skip) <;> simp_all <;> omega
/-- The two keep step: each word is what the list says of it. -/
def Step (R : Nat → Int) (l : List Ent) : Prop := ∀ j, j < 648 → R j = atL l (cellOf j)
theorem step_new : Step (fun _ => 0) [] := fun j _ => by simp [atL, lastW]
theorem cellOf_g0 {j : Nat} (hj : j < 648) : ((cellOf j).1 = 0 ∧ (cellOf j).2.2 = 0) ↔ (512 ≤ j ∧ (j - 512) % 8 = 0) := by
  unfold cellOf
  split
  · split <;> simp <;> omega
  · simp; omega
theorem step_upd {R : Nat → Int} {l : List Ent} (h : Step R l) {k : Nat} (hk : k < 648) (h0 : ¬ (512 ≤ k ∧ (k - 512) % 8 = 0)) (v : Int) : Step (upd R k v) (l ++ [(cellOf k, v)]) := fun j hj => by
  have hj' := h j hj
  unfold atL at hj' ⊢
  by_cases e : j = k
  · subst e
    rw [upd_same, if_neg (fun hh => h0 ((cellOf_g0 hj).1 hh)), lastW_snoc, if_pos rfl]
  · rw [upd_ne R v e, hj', lastW_snoc, if_neg (fun hh => e (cellOf_inj hk hj hh).symm)]
theorem step_g0 {R : Nat → Int} {l : List Ent} (h : Step R l) {k : Nat} (hk : k < 648) (h0 : 512 ≤ k ∧ (k - 512) % 8 = 0) (v : Int) : Step R (l ++ [(cellOf k, v)]) := fun j hj => by
  have hj' := h j hj
  unfold atL at hj' ⊢
  by_cases e : (cellOf j).1 = 0 ∧ (cellOf j).2.2 = 0
  · rw [if_pos e] at hj' ⊢; exact hj'
  · rw [if_neg e] at hj' ⊢
    rw [lastW_snoc, if_neg (fun hh => e ?_)]; · exact hj'
    rw [← hh]; exact (cellOf_g0 hk).2 h0
/-- After a Set they do. -/
theorem step_set {R : Nat → Int} {l : List Ent} (h : Step R l) {n win bank reg : Int} (hn : n ≤ 32) (hm : Named n win bank reg) (v : Int) : Step (setR R n win bank reg v) (l ++ [(place n win bank reg, v)]) := by
  rw [← cellOf_loc hn hm]
  have hk := loc_lt hn hm
  unfold setR
  split
  · rename_i e
    refine step_g0 h hk ?_ v
    obtain ⟨h1, h2, h3, h4, h5, h6⟩ := hm
    rw [loc_global (by omega)]; omega
  · rename_i e
    refine step_upd h hk ?_ v
    obtain ⟨h1, h2, h3, h4, h5, h6⟩ := hm
    unfold loc
    split
    · omega
    · split
      · split <;> omega
      · omega
/-- The entries that a Put of k words makes. -/
def ents (win : Int) (X : List Int) (k : Nat) : List Ent := (List.range k).map fun i => (cellOf ((16 * win).toNat + i), X.getD i 0)
theorem ents_succ (win : Int) (X : List Int) (k : Nat) : ents win X (k + 1) = ents win X k ++ [(cellOf ((16 * win).toNat + k), X.getD k 0)] := by simp [ents, List.range_succ]
def putK (R : Nat → Int) (win : Int) (X : List Int) (k : Nat) : Nat → Int := fun j => if (16 * win).toNat ≤ j ∧ j < (16 * win).toNat + k then X.getD (j - (16 * win).toNat) 0 else R j
theorem step_putK {R : Nat → Int} {l : List Ent} (h : Step R l) {win : Int} (h0 : 0 ≤ win) (h1 : win < 32) (X : List Int) : ∀ k, k ≤ 16 → Step (putK R win X k) (l ++ ents win X k)
  | 0, _ => by
    have e : putK R win X 0 = R := by funext j; unfold putK; rw [if_neg (by omega)]
    rw [e]; simpa [ents] using h
  | k + 1, hk => by
    have ih := step_putK h h0 h1 X k (by omega)
    have := step_upd ih (k := (16 * win).toNat + k) (by omega) (by omega) (X.getD k 0)
    rw [ents_succ, ← List.append_assoc]
    have e : putK R win X (k + 1) = upd (putK R win X k) ((16 * win).toNat + k) (X.getD k 0) := by
      funext j
      unfold putK upd
      by_cases e : j = (16 * win).toNat + k
      · subst e; rw [if_pos rfl, if_pos (by omega), show (16 * win).toNat + k - (16 * win).toNat = k by omega]
      · rw [if_neg e]
        show (if _ then _ else _) = (if _ then _ else _)
        by_cases c : (16 * win).toNat ≤ j ∧ j < (16 * win).toNat + k
        · rw [if_pos c, if_pos (by omega)]
        · rw [if_neg c, if_neg (by omega)]
    rw [e]; exact this
theorem step_put {R : Nat → Int} {l : List Ent} (h : Step R l) {win : Int} (h0 : 0 ≤ win) (h1 : win < 32) (X : List Int) : Step (putR R win X) (l ++ ents win X 16) := step_putK h h0 h1 X 16 (Nat.le_refl _)
theorem place_put {n win : Int} (h0 : 0 ≤ win) (h1 : win < n) (hn : n ≤ 32) {k : Nat} (hk : k < 16) : place n win 0 (16 + k) = cellOf ((16 * win).toNat + k) := by
  rw [← cellOf_loc hn ⟨h0, h1, by omega, by omega, by omega, by omega⟩, loc_own (by omega)]
  congr 1; omega
end Go.Proofs.YtgbodbejcffclaaDoor.F3
