/- The words of the document's list (layer 7, plain), and that they are the list's. The document's lists (layer 7): Words. same (layer 7): a list and the document's answer alike. -/
import Derived.Test.YtoecanjhkbeemaaDoorAsmDo
import Derived.Test.YtoecanjhkbeemaaDoorAsmJump
import Derived.Test.YtoecanjhkbeemaaDoorAsmRefE
import Derived.Test.YtoecanjhkbeemaaDoorInstRefEnc
import Derived.Test.YtoecanjhkbeemaaDoorAsmWords
import Derived.Test.YtoecanjhkbeemaaDoorAsmTri
import Derived.Deep.QuietTactic
import Derived.BigQuiet
namespace Go.Proofs.YtoecanjhkbeemaaDoor.A7
open Go.RowKit Go.Maps
set_option linter.unusedVariables false
/-- What each item of a document's list is. -/
structure GI (t : It) : Prop where
  b : XB t.x
  j : t.j = true → t.x.s = 0 ∧ t.x.t = 0 ∧ t.x.b = true ∧ ((t.x.o = 17 ∧ 0 ≤ t.x.d ∧ t.x.d ≤ 6) ∨ (t.x.o = 18 ∧ t.x.d = 0))
def GL (l : List It) : Prop := ∀ t ∈ l, GI t
theorem GL.nil : GL [] := fun t h => by simp at h
theorem GL.append {l m : List It} (h : GL l) (k : GL m) : GL (l ++ m) := fun t ht => (List.mem_append.1 ht).elim (h t) (k t)
theorem GL.its {X : Nat → XI} {k : Nat} (h : ∀ i, i < k → XB (X i)) : GL (its X k) := fun t ht => by
  unfold A7.its at ht
  obtain ⟨i, hi, rfl⟩ := List.mem_map.1 ht
  exact ⟨h i (List.mem_range.1 hi), fun e => by simp at e⟩
theorem GL.one {o d : Int} {s : ByteArray} (h : (o = 17 ∧ 0 ≤ d ∧ d ≤ 6) ∨ (o = 18 ∧ d = 0)) : GL [⟨⟨o, d, 0, 0, true, 0⟩, true, s⟩] := fun t ht => by
  rw [List.mem_singleton] at ht
  subst ht
  exact ⟨⟨by simp only; omega, by simp only; omega, by simp only; omega, by simp only; omega, by simp only; omega⟩, fun _ => ⟨rfl, rfl, rfl, h⟩⟩
theorem GI.may {t : It} (h : GI t) (hj : t.j = true) (m : Int) (h0 : -1048576 ≤ m) (h1 : m ≤ 1048575) : I2.may t.x.o t.x.d t.x.s t.x.t t.x.b m = true := by
  obtain ⟨e1, e2, e3, e4⟩ := h.j hj
  rw [e1, e2, e3]
  rcases e4 with ⟨e, r0, r1⟩ | ⟨e, r0⟩
  · rw [I2.may4_t _ _ _ _ _ r0 (by decide) (by decide) e]
    exact decide_eq_true ⟨r1, rfl, rfl, h0, h1⟩
  · rw [I2.may5_t _ _ _ _ _ (by omega) (by decide) (by decide) e]
    exact decide_eq_true ⟨r0, rfl, rfl, h0, h1⟩
theorem GL.does {l : List It} (h : GL l) (ms : List (ByteArray × Nat)) (a : Ac) (hx : ∀ i, i < a.k → XB (a.X i)) (hc : 0 ≤ a.c ∧ a.c ≤ 255) (hu : 0 ≤ a.u ∧ a.u < 4294967296) : GL (doL l ms a) := by
  unfold doL
  split
  · split
    · exact h.append (GL.its hx)
    · exact h
  split
  · exact h
  split
  · split
    · exact h.append (GL.one (.inl ⟨rfl, hc.1, by assumption⟩))
    · exact h
  split
  · exact h.append (GL.one (.inr ⟨rfl, rfl⟩))
  split
  · exact h.append (GL.its fun i _ => cX_b a.c a.u i hc hu)
  · exact h
/-- Has an item a word? -/
def okW (ms : List (ByteArray × Nat)) (t : It) : Bool := !t.j || (look ms t.dest).isSome
def okL (ms : List (ByteArray × Nat)) (l : List It) : Bool := l.all (okW ms)
/-- An item's word, at a place. -/
def fw (ms : List (ByteArray × Nat)) (i : Nat) (t : It) : Int := if t.j then I2.enc t.x.o t.x.d 0 0 true (((look ms t.dest).getD 0 : Nat) - (i : Int)) else t.x.word
def gW (ms : List (ByteArray × Nat)) (l : List It) (i : Nat) : Int := match l[i]? with | some t => fw ms i t | none => 0
theorem fin_jl (ms : List (ByteArray × Nat)) : ∀ (l : List It) (p : Nat) (f : Nat → Int), (okL ms l = false → fin ms (jl p l) f = none) ∧
    (okL ms l = true → ∃ g, fin ms (jl p l) f = some g ∧ (∀ i, i < p → g i = f i) ∧ ∀ i t, l[i]? = some t → g (p + i) = if t.j then fw ms (p + i) t else f (p + i))
  | [], p, f => ⟨fun h => by simp [okL] at h, fun _ => ⟨f, rfl, fun _ _ => rfl, fun i t h => by simp at h⟩⟩
  | t :: l, p, f => by
    have hall : okL ms (t :: l) = (okW ms t && okL ms l) := rfl
    cases hj : t.j with
    | false =>
      have hk : okW ms t = true := by unfold okW; rw [hj]; rfl
      have e : jl p (t :: l) = jl (p + 1) l := by simp only [jl]; rw [hj]; rfl
      rw [hall, hk, e, Bool.true_and]
      obtain ⟨h1, h2⟩ := fin_jl ms l (p + 1) f
      refine ⟨h1, fun h => ?_⟩
      obtain ⟨g, hg, hlow, hat⟩ := h2 h
      refine ⟨g, hg, fun i hi => hlow i (by omega), fun i s hs => ?_⟩
      cases i with
      | zero =>
        obtain rfl : t = s := by simpa using hs
        rw [hj, if_neg (by decide)]
        exact hlow p (by omega)
      | succ i =>
        have := hat i s (by simpa using hs)
        rw [show p + 1 + i = p + (i + 1) by omega] at this
        exact this
    | true =>
      have e : jl p (t :: l) = ⟨p, t.x.o, t.x.d, t.dest⟩ :: jl (p + 1) l := by simp only [jl]; rw [hj]; rfl
      cases hl : look ms t.dest with
      | none =>
        have hk : okW ms t = false := by unfold okW; rw [hj, hl]; rfl
        rw [hall, hk, e, Bool.false_and]
        refine ⟨fun _ => by simp only [fin, hl], fun h => by cases h⟩
      | some at' =>
        have hk : okW ms t = true := by unfold okW; rw [hj, hl]; rfl
        rw [hall, hk, e, Bool.true_and]
        have ef : fin ms (⟨p, t.x.o, t.x.d, t.dest⟩ :: jl (p + 1) l) f = fin ms (jl (p + 1) l) (F3.upd f p ((⟨p, t.x.o, t.x.d, t.dest⟩ : AJ).word at')) := by simp only [fin, hl]
        rw [ef]
        obtain ⟨h1, h2⟩ := fin_jl ms l (p + 1) (F3.upd f p ((⟨p, t.x.o, t.x.d, t.dest⟩ : AJ).word at'))
        refine ⟨h1, fun h => ?_⟩
        obtain ⟨g, hg, hlow, hat⟩ := h2 h
        refine ⟨g, hg, fun i hi => ?_, fun i s hs => ?_⟩
        · rw [hlow i (by omega)]; unfold F3.upd; rw [if_neg (by omega)]
        · cases i with
          | zero =>
            obtain rfl : t = s := by simpa using hs
            rw [hj, if_pos rfl, Nat.add_zero, hlow p (by omega)]
            unfold F3.upd fw AJ.word
            rw [if_pos rfl, if_pos hj, hl]
            rfl
          | succ i =>
            have := hat i s (by simpa using hs)
            rw [show p + 1 + i = p + (i + 1) by omega] at this
            rw [this]
            have e9 : F3.upd f p ((⟨p, t.x.o, t.x.d, t.dest⟩ : AJ).word at') (p + (i + 1)) = f (p + (i + 1)) := by unfold F3.upd; rw [if_neg (by omega)]
            rw [e9]
theorem Rel.words {q : AS} {l : List It} {ms : List (ByteArray × Nat)} (h : Rel q l ms) : (okL ms l = false → q.words = none) ∧ (okL ms l = true → ∃ f, q.words = some f ∧ ∀ i, i < l.length → f i = gW ms l i) := by
  obtain ⟨h1, h2⟩ := fin_jl ms l 0 q.ws
  unfold AS.words
  rw [h.mks, h.js]
  refine ⟨h1, fun hk => ?_⟩
  obtain ⟨g, hg, _, hat⟩ := h2 hk
  refine ⟨g, hg, fun i hi => ?_⟩
  have e := hat i _ (List.getElem?_eq_getElem hi)
  rw [Nat.zero_add] at e
  rw [e]
  unfold gW
  rw [List.getElem?_eq_getElem hi]
  simp only
  split
  · rfl
  · rename_i hj
    rw [h.ws i _ (List.getElem?_eq_getElem hi)]
    unfold It.word fw
    rw [if_neg hj, if_neg hj]
end Go.Proofs.YtoecanjhkbeemaaDoor.A7
namespace Go.Proofs.YtoecanjhkbeemaaDoor.A7
open Go.RowKit Go.Maps
set_option linter.unusedVariables false
theorem cells8_at : ∀ (l : List It) (i : Nat) (t : It), l[i]? = some t → ∀ (k : Nat) (v : Value), t.row[k]? = some v → (itCells l)[i * 8 + k]? = some v
  | [], i, t, h, _, _, _ => by simp at h
  | q :: l, 0, t, h, k, v, hv => by
    simp at h; subst h
    have hk : k < q.row.length := by
      rcases Nat.lt_or_ge k q.row.length with h | h
      · exact h
      · rw [List.getElem?_eq_none h] at hv; cases hv
    have e : itCells (q :: l) = q.row ++ itCells l := rfl
    rw [e, Nat.zero_mul, Nat.zero_add, List.getElem?_append_left hk]
    exact hv
  | q :: l, i + 1, t, h, k, v, hv => by
    have := cells8_at l i t (by simpa using h) k v hv
    have e : itCells (q :: l) = q.row ++ itCells l := rfl
    rw [e, List.getElem?_append_right (by rw [It.len]; omega), It.len, show (i + 1) * 8 + k - 8 = i * 8 + k by omega]
    exact this
theorem okL_yes {ms : List (ByteArray × Nat)} {l : List It} (h : ∀ (i : Nat) (t : It), i < l.length → l[i]? = some t → okW ms t = true) : okL ms l = true := by
  unfold okL
  rw [List.all_eq_true]
  intro t ht
  obtain ⟨i, hi, e⟩ := List.mem_iff_getElem.1 ht
  exact h i t hi (by rw [List.getElem?_eq_getElem hi, e])
theorem okL_no {ms : List (ByteArray × Nat)} {l : List It} {i : Nat} {t : It} (ht : l[i]? = some t) (h : okW ms t = false) : okL ms l = false := by
  unfold okL
  rw [List.all_eq_false]
  obtain ⟨hi, e⟩ := List.getElem?_eq_some_iff.1 ht
  exact ⟨t, e ▸ List.getElem_mem hi, by simp [h]⟩
theorem gW_at {ms : List (ByteArray × Nat)} {l : List It} {i : Nat} {t : It} (ht : l[i]? = some t) : gW ms l i = fw ms i t := by unfold gW; rw [ht]
theorem own_belV {W W' : World} {B : Nat} {t : TypeId} {n : Nat} {s : Value} {xs : List Value} (h : W.ownsRow B t 1 s n xs) (k : Below W.heap.size W W') : W'.ownsRow B t 1 s n xs :=
  own_same h fun j hj => k.block j (h.lt j hj).2
theorem row_bel (w : World) (xs : Array Value) (t : TypeId) : Below w.heap.size w (w.alloc (.cells xs t)) := (Below.refl _ _).alloc (Nat.le_refl _) _
set_option maxHeartbeats 4000000 in
set_option maxRecDepth 20000 in
theorem refWords_any {w : World} {lv mv : Value} {l : List It} {ms : List (ByteArray × Nat)} (h : RL w lv mv l ms) (hu : UM ms) (hg : GL l) (hm : ∀ p ∈ ms, p.2 ≤ 100000) :
    Calls Tryd.prog 29 #[.agg #[lv, mv]] w fun e w' => ((okL ms l = true ∧ ∃ v, e = .returned (.tuple #[v, .int .i64 0]) ∧ Sl .u32 w' v l.length (gW ms l)) ∨ (okL ms l = false ∧ e = .returned (.tuple #[.slice none 0 0, .int .i64 7]))) ∧ Below w.heap.size w w' := by
  obtain ⟨i0, hi, hz0, hz1, hz2⟩ := info_parts words_parts
  have V0 : Below w.heap.size w (w.alloc (.cells #[lv, mv] 30)) := (Below.refl _ _).alloc (Nat.le_refl _) _
  have H1 := h.bel V0
  have HN := h.ln
  obtain ⟨lp, lc, hlv, hcs⟩ : ∃ p c, lv = .slice p l.length c ∧ (0 < l.length → ∃ g, p = some ⟨g, 0, none⟩) := by
    rcases ownK_of h.row with ⟨rfl, h0⟩ | ⟨g, c, rfl⟩
    · exact ⟨_, _, by rw [h0], fun e => by omega⟩
    · exact ⟨_, _, rfl, fun _ => ⟨g, rfl⟩⟩
  obtain ⟨_, mp, mc, hmv⟩ := h.forms
  subst hmv hlv
  have CA : Hid (∀ (s : ByteArray) (W : World), Below (w.alloc (.cells #[.slice lp l.length lc, .slice mp ms.length mc] 30)).heap.size (w.alloc (.cells #[.slice lp l.length lc, .slice mp ms.length mc] 30)) W → Calls Tryd.prog 30 #[.agg #[.slice lp l.length lc, .slice mp ms.length mc], .string s] W fun e w' => e = .returned (.tuple #[.int .i64 (rAtV ms s), .int .i64 (rAtE ms s)]) ∧ Below W.heap.size W w') := fun s W g => refAt_any s (H1.bel g)
  have H1 := Lib.hid H1
  have HCS := Lib.hid hcs
  have V1 := Lib.hid V0
  have HU := Lib.hid hu
  have HG := Lib.hid hg
  have HM := Lib.hid hm
  have b0 : (w.alloc (.cells #[.slice lp l.length lc, .slice mp ms.length mc] 30)).cell? ⟨w.heap.size, 0, none⟩ = some (.slice lp l.length lc) := cell_of_row _ _ _ _ _ _ (heap_alloc_last _ _)
  have b1 : (w.alloc (.cells #[.slice lp l.length lc, .slice mp ms.length mc] 30)).cell? ⟨w.heap.size, 1, none⟩ = some (.slice mp ms.length mc) := cell_of_row _ _ _ _ _ _ (heap_alloc_last _ _)
  have lz : w.heap.size < (w.alloc (.cells #[.slice lp l.length lc, .slice mp ms.length mc] 30)).heap.size := by simp
  clear h hcs V0 hu hg hm
  go_enter Tryd.func29, Tryd.ntmps29
  go_upto_region 1 with (fail)
  generalize w.alloc (.cells #[.slice lp l.length lc, .slice mp ms.length mc] 30) = V at H1 V1 b0 b1 lz CA ⊢
  have B0 := Lib.hid b0
  have B1 := Lib.hid b1
  clear b0 b1
  go_wp2_with fail
  go_loopw [4, 5] (fun o i wr => ∃ j : Nat, j ≤ l.length ∧ i = .int .i64 j ∧ (∀ (i : Nat) (t : It), i < j → l[i]? = some t → okW ms t = true) ∧ wr.ownsRow V.heap.size 34 1 o j (bsL .u32 (gW ms l) j) ∧ Below V.heap.size V wr) (fun _ i _ => l.length - (intOf i).toNat)
  case atStart => exact ⟨0, Nat.zero_le _, rfl, fun i t h => absurd h (Nat.not_lt_zero _), World.ownsRow_nil _ _ _ _, Below.refl _ _⟩
  case round =>
    obtain ⟨j, hj, rfl, hok, own, g⟩ := hrel
    have b0 := bel_cell g B0.out
    have b1 := bel_cell g B1.out
    have OK := Lib.hid hok
    have OW := Lib.hid own
    have G := Lib.hid g
    clear hok own
    by_cases hlt : j < l.length
    · obtain ⟨gb, rfl⟩ := HCS.out (by omega)
      obtain ⟨t, ht⟩ : ∃ t, l[j]? = some t := ⟨_, List.getElem?_eq_getElem hlt⟩
      have rd : ∀ (k : Nat) (v : Value), t.row[k]? = some v → wr.cell? ⟨gb, j * 8 + k, none⟩ = some v := fun k v hv => by
        have := ownK_cell H1.out.row _ _ (cells8_at l j t ht k v hv)
        rw [Nat.zero_add] at this
        exact bel_cell g this
      have gi := HG.out t (List.mem_of_getElem? ht)
      obtain ⟨⟨o, d, s, u, b, n⟩, tj, dest⟩ := t
      have x0 := rd 0 _ rfl
      have x1 := rd 1 _ rfl
      have x2 := rd 2 _ rfl
      have x3 := rd 3 _ rfl
      have x4 := rd 4 _ rfl
      have x5 := rd 5 _ rfl
      have x6 := rd 6 _ rfl
      have x7 := rd 7 _ rfl
      rw [Nat.add_zero] at x0
      have lzw : w.heap.size < wr.heap.size := Nat.lt_of_lt_of_le lz g.size
      have lgb : gb < wr.heap.size := block_lt_of_cell (a := ⟨gb, j * 8, none⟩) x0
      have HT := Lib.hid ht
      have GI := Lib.hid gi
      have HLT := Lib.hid hlt
      clear rd ht gi g
      cases tj
      · have EN : Hid (∀ W : World, Calls Tryd.prog 36 #[.agg #[.int .u8 o, .int .u8 d, .int .u8 s, .int .u8 u, .bool b, .int .i32 n]] W fun e w' => e = .returned (.tuple #[.int .u32 (gW ms l j), .int .i64 (I2.eE o d s u b n)]) ∧ Below W.heap.size W w') := fun W => by
          rw [gW_at HT.out]
          exact (I2.renc_any o d s u b n W GI.out.b.o GI.out.b.d GI.out.b.s GI.out.b.t GI.out.b.n).mono fun e w' h => ⟨h.1, h.2.bel⟩
        have KJ : Hid (∀ (i : Nat) (t : It), i < j + 1 → l[i]? = some t → okW ms t = true) := fun i t hi h => by
          rcases Nat.lt_or_ge i j with h1 | h1
          · exact OK.out i t h1 h
          · obtain rfl : i = j := by omega
            rw [HT.out] at h; cases h; rfl
        go_wp2_with fail
        refine (EN.out _).mono ?_; rintro e w2 ⟨rfl, g2⟩
        have gg := bel_trans (row_bel wr _ _) g2
        have hown := own_belV OW.out gg
        have G2 := bel_trans G.out gg
        have hsz := G2.size
        have hrl := Lib.hid (bsL_succ .u32 (gW ms l) j)
        clear gg g2
        go_wp2_with (at_builtin; refine wpList_append_own _ rfl _ _ 40 rfl V.heap.size 34 i0 (.int .u32 0) 1 4 words_under hi hz0 hz1 hz2 rfl (by decide) _ _ _ rfl (hown.alloc _) ⟨w2.heap.size, 0, none⟩ 1 1 [.int .u32 (gW ms l j)] rfl rfl (one_new _ _ _) (fun x hx => by simp at hx; subst hx; rfl) (by unfold maxLen; omega) (by omega) (by simp; omega) ?_; intro s' w3 hown' hgrow hnil
                     have X : Hid (w3.ownsRow V.heap.size 34 1 s' (j + 1) (bsL .u32 (gW ms l) (j + 1)) ∧ Below V.heap.size V w3) := ⟨by rw [hrl.out]; exact hown', Below.grown (G2.alloc (by omega) _) hgrow (by simp; omega) (fun j hj => (hown.lt _ hj).1)⟩
                     clear hown' hgrow hnil)
        go_roundw
        case rel => exact ⟨j + 1, HLT.out, by go_num, KJ.out, X.out.1, X.out.2⟩
        case measure => have h9 := HLT.out; simp only [intOf]; omega
      · obtain ⟨e1, e2, e3, e4⟩ := GI.out.j rfl
        simp only at e1 e2 e3
        subst e1 e2 e3
        cases hl : look ms dest
        · have AV : Hid (rAtV ms dest = 0 ∧ rAtE ms dest = 7) := by unfold rAtV rAtE; rw [HU.out.first, hl]; exact ⟨rfl, rfl⟩
          have NO := Lib.hid (okL_no HT.out (show okW ms _ = false by unfold okW; rw [hl]; rfl))
          have CN : Hid (∀ (W : World), Below V.heap.size V W → Calls Tryd.prog 30 #[.agg #[.slice (some ⟨gb, 0, none⟩) l.length lc, .slice mp ms.length mc], .string dest] W fun e w' => e = .returned (.tuple #[.int .i64 0, .int .i64 7]) ∧ Below W.heap.size W w') := fun W g => by
            have := CA.out dest W g
            rw [AV.out.1, AV.out.2] at this
            exact this
          clear CA
          go_wp2_with fail
          go_region_with (go_at_call 30; refine (CN.out _ (Below.drew (bel_trans G.out (row_bel wr _ _)))).mono ?_; rintro e V6 ⟨rfl, g6⟩)
          all_goals
            have Z := Lib.hid (bel_trans V1.out (bel_trans (Below.drew (bel_trans G.out (row_bel wr _ _))) g6))
            clear g6
            go_wp2_with fail
            go_ret2
            exact ⟨.inr ⟨NO.out, rfl⟩, Z.out⟩
        · rename_i at'
          have AV : Hid (rAtV ms dest = (at' : Int) ∧ rAtE ms dest = 0) := by unfold rAtV rAtE; rw [HU.out.first, hl]; exact ⟨rfl, rfl⟩
          have hat : at' ≤ 100000 := by
            obtain ⟨p, hp, e⟩ := look_mem ms dest at' hl
            have := HM.out p hp
            omega
          have CN : Hid (∀ (W : World), Below V.heap.size V W → Calls Tryd.prog 30 #[.agg #[.slice (some ⟨gb, 0, none⟩) l.length lc, .slice mp ms.length mc], .string dest] W fun e w' => e = .returned (.tuple #[.int .i64 (at' : Int), .int .i64 0]) ∧ Below W.heap.size W w') := fun W g => by
            have := CA.out dest W g
            rw [AV.out.1, AV.out.2] at this
            exact this
          have hmay := GI.out.may rfl ((at' : Int) - (j : Int)) (by omega) (by omega)
          have EN : Hid (∀ W : World, Calls Tryd.prog 36 #[.agg #[.int .u8 o, .int .u8 d, .int .u8 0, .int .u8 0, .bool true, .int .i32 ((at' : Int) - (j : Int))]] W fun e w' => e = .returned (.tuple #[.int .u32 (gW ms l j), .int .i64 (I2.eE o d 0 0 true ((at' : Int) - (j : Int)))]) ∧ Below W.heap.size W w') := fun W => by
            rw [gW_at HT.out]
            have hf : fw ms j ⟨⟨o, d, 0, 0, true, n⟩, true, dest⟩ = I2.eW o d 0 0 true ((at' : Int) - (j : Int)) := by
              unfold fw
              rw [if_pos rfl, hl, I2.eW_yes hmay]
              rfl
            rw [hf]
            exact (I2.renc_any o d 0 0 true ((at' : Int) - (j : Int)) W GI.out.b.o GI.out.b.d (by decide) (by decide) (by omega)).mono fun e w' h => ⟨h.1, h.2.bel⟩
          have KJ : Hid (∀ (i : Nat) (t : It), i < j + 1 → l[i]? = some t → okW ms t = true) := fun i t hi h => by
            rcases Nat.lt_or_ge i j with h1 | h1
            · exact OK.out i t h1 h
            · obtain rfl : i = j := by omega
              rw [HT.out] at h; cases h; unfold okW; rw [hl]; rfl
          clear CA hmay
          go_wp2_with fail
          go_region_with (go_at_call 30; refine (CN.out _ (Below.drew (bel_trans G.out (row_bel wr _ _)))).mono ?_; rintro e V6 ⟨rfl, g6⟩)
          all_goals
            have hb := bel_heap g6 (heap_alloc_last wr (.cells #[.int .u8 o, .int .u8 d, .int .u8 0, .int .u8 0, .bool true, .int .i32 n] 49))
            have gg : Below wr.heap.size wr V6 := bel_trans (Below.drew (row_bel wr _ _)) g6
            have G5 := Lib.hid gg
            have y0 := row_cell hb (j := 0) rfl
            have y1 := row_cell hb (j := 1) rfl
            have y2 := row_cell hb (j := 2) rfl
            have y3 := row_cell hb (j := 3) rfl
            have y4 := row_cell hb (j := 4) rfl
            have y5 := row_cell hb (j := 5) rfl
            have fy : V6.frozen? ⟨wr.heap.size, 5, none⟩ = false := frozen_of_row _ _ _ _ _ hb
            clear gg g6 hb
            go_wp2_with fail
            refine (EN.out _).mono ?_; rintro e w2 ⟨rfl, g2⟩
            have gg := bel_trans (G5.out.setCell (p := ⟨wr.heap.size, 5, none⟩) (Nat.le_refl _) _) g2
            have hown := own_belV OW.out gg
            have G2 := bel_trans G.out gg
            have hsz := G2.size
            have hrl := Lib.hid (bsL_succ .u32 (gW ms l) j)
            clear gg g2
            go_wp2_with (at_builtin; refine wpList_append_own _ rfl _ _ 40 rfl V.heap.size 34 i0 (.int .u32 0) 1 4 words_under hi hz0 hz1 hz2 rfl (by decide) _ _ _ rfl (hown.alloc _) ⟨w2.heap.size, 0, none⟩ 1 1 [.int .u32 (gW ms l j)] rfl rfl (one_new _ _ _) (fun x hx => by simp at hx; subst hx; rfl) (by unfold maxLen; omega) (by omega) (by simp; omega) ?_; intro s' w3 hown' hgrow hnil
                         have X : Hid (w3.ownsRow V.heap.size 34 1 s' (j + 1) (bsL .u32 (gW ms l) (j + 1)) ∧ Below V.heap.size V w3) := ⟨by rw [hrl.out]; exact hown', Below.grown (G2.alloc (by omega) _) hgrow (by simp; omega) (fun j hj => (hown.lt _ hj).1)⟩
                         clear hown' hgrow hnil)
            go_roundw
            case rel => exact ⟨j + 1, HLT.out, by go_num, KJ.out, X.out.1, X.out.2⟩
            case measure => have h9 := HLT.out; simp only [intOf]; omega
    · obtain rfl : j = l.length := by omega
      have X := Lib.hid (okL_yes OK.out)
      have Y := Lib.hid (own_sl OW.out)
      have Z := Lib.hid (bel_trans V1.out G.out)
      go_wp2_with fail
      go_ret2
      exact ⟨.inl ⟨X.out, _, rfl, Y.out⟩, Z.out⟩
end Go.Proofs.YtoecanjhkbeemaaDoor.A7
namespace Go.Proofs.YtoecanjhkbeemaaDoor.A7
open Go.RowKit Go.Maps
set_option linter.unusedVariables false
theorem rAtV_is {q : AS} {l : List It} {ms : List (ByteArray × Nat)} (h : Rel q l ms) (s : ByteArray) : rAtV ms s = atV q s ∧ rAtE ms s = atE q s := by
  unfold rAtV rAtE atV atE
  rw [h.um.first, h.mks]
  exact ⟨rfl, rfl⟩
set_option maxHeartbeats 1000000 in
theorem Same_quiet (s t : Value) (m : Nat) (f g : Nat → Int) (w : World) (hm : m ≤ 4194304) (h1 : Sl .u32 w s m f) (h2 : Sl .u32 w t m g) (he : ∀ i, i < m → f i = g i) :
    Calls Tryd.prog 13 #[s, t] w fun e w' => e = .returned (.bool true) ∧ ∃ n, w' = w.drewN n := by
  obtain ⟨p, c, rfl, h1⟩ := h1
  obtain ⟨q, d, rfl, h2⟩ := h2
  have H1 := Lib.hid h1
  have H2 := Lib.hid h2
  have HE := Lib.hid he
  clear h1 h2 he
  go_enter Tryd.func13, Tryd.ntmps13
  go_wp2
  go_loopw [5] (fun i wr => ∃ k n : Nat, k ≤ m ∧ i = .int .i64 k ∧ wr = w.drewN n) (fun i _ => m - (intOf i).toNat)
  case atStart => exact ⟨0, 0, by omega, rfl, rfl⟩
  case round =>
    obtain ⟨k, n, hk, rfl, rfl⟩ := hrel
    by_cases hlt : k < m
    · obtain ⟨a, o, rfl, ha⟩ := H1.out (by omega)
      obtain ⟨b, r, rfl, hb⟩ := H2.out (by omega)
      have ca := ha k hlt
      have cb := hb k hlt
      rw [← HE.out k hlt] at cb
      have hk32 : k < 4194304 := by omega
      clear ha hb H1 H2
      go_wp2
      go_quiet (fail)
      go_wp2
      go_roundw
      case rel => exact ⟨k + 1, _, by omega, by go_num, rfl⟩
      case measure => simp [intOf]; omega
    · obtain rfl : k = m := by omega
      go_wp2
      go_ret
      exact ⟨rfl, _, rfl⟩
set_option maxHeartbeats 4000000 in
set_option maxRecDepth 20000 in
theorem same_at {w : World} {b : Nat} {G K : Nat → Prop} {q : AS} {lv mv : Value} {l : List It} {ms : List (ByteArray × Nat)} (s : ByteArray) (hs : s.size ≤ maxLen) (A : AsmB w b G K q) (R : RL w lv mv l ms) (hr : Rel q l ms) (hg : GL l) :
    Calls Tryd.prog 10 #[.pointer (some ⟨b, 0, none⟩), .agg #[lv, mv], .string s] w fun e w' => e = .returned (.bool true) ∧ Below w.heap.size w w' := by
  have V0 : Below w.heap.size w (w.alloc (.cells #[lv, mv] 30)) := row_bel _ _ _
  have hm : ∀ p ∈ ms, p.2 ≤ 100000 := fun p hp => by
    obtain ⟨_, _, _, _, P⟩ := A
    have h1 := P.ok.at_ p (by rw [hr.mks]; exact hp)
    have h2 := P.ok.n
    omega
  obtain ⟨⟨lp, lc, hlv⟩, mp, mc, hmv⟩ := R.forms
  subst hlv hmv
  have hqn : q.n ≤ 100000 := by obtain ⟨_, _, _, _, P⟩ := A; exact P.ok.n
  have AA := Lib.hid (A.bel V0)
  have RR := Lib.hid (R.bel V0)
  have HR := Lib.hid hr
  have HG := Lib.hid hg
  have HM := Lib.hid hm
  have HV := Lib.hid V0
  have b0 : (w.alloc (.cells #[.slice lp l.length lc, .slice mp ms.length mc] 30)).cell? ⟨w.heap.size, 0, none⟩ = some (.slice lp l.length lc) := cell_of_row _ _ _ _ _ _ (heap_alloc_last _ _)
  have b1 : (w.alloc (.cells #[.slice lp l.length lc, .slice mp ms.length mc] 30)).cell? ⟨w.heap.size, 1, none⟩ = some (.slice mp ms.length mc) := cell_of_row _ _ _ _ _ _ (heap_alloc_last _ _)
  clear A R hr hg hm V0
  go_enter Tryd.func10, Tryd.ntmps10
  go_upto_region 1 with (fail)
  generalize w.alloc (.cells #[.slice lp l.length lc, .slice mp ms.length mc] 30) = V at AA RR HV b0 b1 ⊢
  have B0 := Lib.hid b0
  have B1 := Lib.hid b1
  clear b0 b1
  go_wp2_with fail
  refine (Words_any AA.out).mono ?_
  rintro e w1 hw
  have hw' : ∃ v e0, e = .returned (.tuple #[v, .int .i64 e0]) ∧ Below V.heap.size V w1 ∧ ((okL ms l = true ∧ e0 = 0 ∧ Sl .u32 w1 v l.length (gW ms l)) ∨ (okL ms l = false ∧ e0 = 7 ∧ v = .slice none 0 0)) := by
    rcases hw with ⟨f, v, hf, rfl, own, g⟩ | ⟨hf, rfl, g⟩
    · refine ⟨v, 0, rfl, g, .inl ?_⟩
      cases hk : okL ms l
      · have := HR.out.words.1 hk; rw [hf] at this; cases this
      · obtain ⟨f', hf', he⟩ := HR.out.words.2 hk
        rw [hf] at hf'
        cases hf'
        have S := own_sl own
        rw [HR.out.n] at S
        exact ⟨rfl, rfl, S.congr he⟩
    · refine ⟨_, 7, rfl, g, .inr ?_⟩
      cases hk : okL ms l
      · exact ⟨rfl, rfl, rfl⟩
      · obtain ⟨f', hf', _⟩ := HR.out.words.2 hk
        rw [hf] at hf'; cases hf'
  obtain ⟨v, e0, rfl, g1, hv⟩ := hw'
  have HW := Lib.hid hv
  have G1 := Lib.hid g1
  have b0 := bel_cell g1 B0.out
  have b1 := bel_cell g1 B1.out
  clear hw hv g1
  go_wp2_with fail
  refine (refWords_any (RR.out.bel G1.out) HR.out.um HG.out HM.out).mono ?_
  rintro e w2 ⟨hw, g2⟩
  have hw' : ∃ v', e = .returned (.tuple #[v', .int .i64 e0]) ∧ ∃ (n : Nat) (f : Nat → Int), n ≤ 4194304 ∧ Sl .u32 w2 v n f ∧ Sl .u32 w2 v' n f := by
    rcases hw with ⟨hk, v', rfl, S⟩ | ⟨hk, rfl⟩
    · rcases HW.out with ⟨_, rfl, S1⟩ | ⟨hk', _⟩
      · exact ⟨v', rfl, l.length, _, by have := RR.out.ln; omega, S1.bel g2, S⟩
      · rw [hk] at hk'; cases hk'
    · rcases HW.out with ⟨hk', _⟩ | ⟨_, rfl, rfl⟩
      · rw [hk] at hk'; cases hk'
      · exact ⟨_, rfl, 0, fun _ => 0, by omega, Sl.nil _ _ _ _ _, Sl.nil _ _ _ _ _⟩
  obtain ⟨v', rfl, n, f, hn, S1, S2⟩ := hw'
  obtain ⟨pv, cv, rfl, _⟩ := id S1
  obtain ⟨pw, cw, rfl, _⟩ := id S2
  have G2 := Lib.hid (bel_trans G1.out g2)
  have S1 := Lib.hid S1
  have S2 := Lib.hid S2
  clear hw g2 HW b0 b1
  go_wp2_with fail
  refine (At_at s hs (AA.out.bel G2.out)).mono ?_; rintro e w3 ⟨rfl, rfl⟩
  have b0 := bel_cell G2.out B0.out
  have b1 := bel_cell G2.out B1.out
  go_wp2_with fail
  have CA := refAt_any s (RR.out.bel G2.out)
  rw [(rAtV_is HR.out s).1, (rAtV_is HR.out s).2] at CA
  refine CA.mono ?_; rintro e w4 ⟨rfl, g4⟩
  have G4 := Lib.hid (bel_trans G2.out g4)
  have CS : Hid (∀ k, Calls Tryd.prog 13 #[.slice pv n cv, .slice pw n cw] (w4.drewN k) fun e w'' => e = .returned (.bool true) ∧ ∃ m, w'' = w4.drewN m) := fun k => Calls.quiet_of (Same_quiet _ _ n f f _ hn (S1.out.bel (bel_drewN g4 k)) (S2.out.bel (bel_drewN g4 k)) (fun _ _ => rfl))
  have CL : Hid (∀ k, Calls Tryd.prog 14 #[.pointer (some ⟨b, 0, none⟩)] (w4.drewN k) fun e w'' => e = .returned (.int .i64 l.length) ∧ ∃ m, w'' = w4.drewN m) := fun k => by
    have := Len_at (AA.out.bel (bel_drewN G4.out k))
    rw [HR.out.n] at this
    exact Calls.quiet_of_same this
  clear CA g4 b0 b1 S1 S2
  have b0 := bel_cell G4.out B0.out
  have b1 := bel_cell G4.out B1.out
  generalize atV q s = nn
  generalize atE q s = ee
  go_upto_region 5 with (fail)
  go_quiet ((first | (go_at_call 13; exact CS.out _) | (go_at_call 14; exact CL.out _)))
  go_wp2_with fail
  go_ret
  exact ⟨rfl, bel_drewN (bel_trans HV.out G4.out) _⟩
end Go.Proofs.YtoecanjhkbeemaaDoor.A7
