/- A file that keeps step with a list of all that was set is found to be the same as the document's. A row's last step where of the world behind the call one thing is known: of what was there nothing has turned ('Below'). How much a step changes (layer 6), as plain arithmetic. -/
import Derived.Test.YtiobgnelhiadbaaGreatDoorVFileGS
import Derived.Test.YtiobgnelhiadbaaGreatDoorRows
import Derived.Below
import Derived.ChangeSame
import Derived.Test.YtiobgnelhiadbaaGreatDoorVMachGA
namespace Go.Proofs.YtiobgnelhiadbaaGreatDoor.F3
open Go.RowKit
set_option linter.unusedVariables false
theorem wlk_form {w : World} {B m : Nat} {s : Value} {f : Nat → Int} (h : w.ownsRow B 22 1 s m (wlk f m)) (hm : 0 < m) : ∃ g c, s = .slice (some ⟨g, 0, none⟩) m c ∧ ∀ i, i < m → w.cell? ⟨g, i, none⟩ = some (.int .u32 (f i)) := by
  obtain ⟨_, h | ⟨g, cap, cur, rfl, hB, hg, h1, h2, h3, h4⟩⟩ := h
  · omega
  · refine ⟨g, cap, rfl, fun i hi => ?_⟩
    rw [cell_of_row _ _ _ _ _ _ hg]
    have : (wlk f m)[i]? = some (.int .u32 (f i)) := by simp [wlk, hi]
    rw [← h4, List.getElem?_take_of_lt (by omega)] at this
    simpa using this
end Go.Proofs.YtiobgnelhiadbaaGreatDoor.F3
namespace Go.Proofs.YtiobgnelhiadbaaGreatDoor
open Go.RowKit Go.WideShapes Go.ChangeShapes
theorem post_kept {H : Type} {enc : TypeId × Value → H} {P : Program} {f : Func} {s : ChangeSpec} {apart fresh handsOn again : Bool} {W W' : World} {args : Array Value} {v : Value} {ds gs : List (DataW H)} {before pa pv : List MemPlace}
    (hg : Below W.heap.size W W')
    (hW : DataW.Whole enc P f.params.toList s.vars apart W args.toList ds gs before)
    (hr : ∀ (b : Nat) (sp : Nat → Bool) (hd : Bool), DataW.TrodAll enc P W' b sp hd f.resultTypes.toList (v.resultList f.resultTypes.size) (s.fn H (ds ++ gs)).results [])
    (ha : ∀ sp : Nat → Bool, (∀ p ∈ before, sp p.block = true) → DataW.TrodAll enc P W' 0 sp true f.params.toList args.toList (s.fn H (ds ++ gs)).args pa)
    (hv : ∀ sp : Nat → Bool, (∀ p ∈ before, sp p.block = true) → DataW.TrodVars enc P W' sp s.vars (s.fn H (ds ++ gs)).vars pv)
    (hp : before = pa ++ pv)
    (hok : ∀ (j : Nat) (t : TypeId) (r : Value), f.resultTypes[j]? = some t → (v.resultList f.resultTypes.size)[j]? = some r → Value.okWide P W' .any 0 t r) :
    s.post enc P f apart fresh handsOn again W args v W' := by
  have old : ∀ p ∈ before, p.block < W.heap.size := fun p h => hW.lt p h
  have yes : ∀ sp : Nat → Bool, (∀ b, b < W.heap.size → sp b = true) → ∀ p ∈ before, sp p.block = true := fun sp h p hp => h _ (old p hp)
  have wide := trodAll_append (ha (fun _ => true) (fun _ _ => rfl)) (hr 0 (fun _ => true) true)
  have again' : DataW.Whole enc P (f.resultTypes.toList ++ f.params.toList) s.vars apart W' (v.resultList f.resultTypes.size ++ args.toList) ((s.fn H (ds ++ gs)).results ++ (s.fn H (ds ++ gs)).args) (s.fn H (ds ++ gs)).vars (pa ++ pv) := by
    refine ⟨pa, pv, wide, hv (fun _ => true) (fun _ _ => rfl), rfl, ?_, ?_⟩
    · intro b off h
      have hin : MemPlace.cell b off ∈ before := hp ▸ h
      obtain ⟨_, _, _, _, _, hz, _⟩ := hW
      exact (hg.frozen (p := ⟨b, off, none⟩) (old _ hin)).trans (hz b off hin)
    · obtain ⟨_, _, _, _, _, _, hn⟩ := hW
      exact fun h => hp ▸ hn h
  have keeps : W.keptBut W' fun p => p ∈ before ∧ (p ∈ ([] : List MemPlace) ∨ p ∈ pa ∨ p ∈ pv) :=
    World.keptBut_mono (fun p (h : p ∈ before) => ⟨h, Or.inr (List.mem_append.1 (hp ▸ h))⟩) (hg.frame (· ∈ before))
  have back : ∀ p ∈ pa ++ pv, p.block < W.heap.size → p ∈ before := fun p h _ => by rw [hp]; exact h
  exact ⟨ds, gs, before, [], pa, pv, hW, hr _ _ _, ha _ (yes _ fun b h => decide_eq_true h), hv _ (yes _ fun b h => decide_eq_true h), keeps, fun _ => ⟨hok, _, _, pa ++ pv, again', back⟩⟩
end Go.Proofs.YtiobgnelhiadbaaGreatDoor
namespace Go.Proofs.YtiobgnelhiadbaaGreatDoor.K6
open Go.RowKit
set_option linter.unusedVariables false
/-- What a step changes at most. -/
structure Chg (m m' : MS) : Prop where
  nw : m'.nw = m.nw
  sz : m'.sz = m.sz
  R : ∃ j, ∀ i, i ≠ j → m'.R i = m.R i
  f : ∃ k, ∀ i, i / 4 ≠ k → m'.f i = m.f i
  t : ∃ k, ∀ i, i ≠ k → m'.tpc i = m.tpc i ∧ m'.tps i = m.tps i
  o0 : m.ol ≤ m'.ol
  o1 : m'.ol ≤ m.ol + 1
  o2 : ∀ i, i < m.ol → m'.out i = m.out i
theorem Chg.refl (m : MS) : Chg m m := ⟨rfl, rfl, ⟨0, fun _ _ => rfl⟩, ⟨0, fun _ _ => rfl⟩, ⟨0, fun _ _ => ⟨rfl, rfl⟩⟩, Nat.le_refl _, Nat.le_succ _, fun _ _ => rfl⟩
/-- Two machines that have the same registers, bytes, banks and output. -/
structure Alike (m m' : MS) : Prop where
  nw : m'.nw = m.nw
  sz : m'.sz = m.sz
  R : m'.R = m.R
  f : m'.f = m.f
  tpc : m'.tpc = m.tpc
  tps : m'.tps = m.tps
  ol : m'.ol = m.ol
  out : m'.out = m.out
theorem Chg.alike {m m' m'' : MS} (h : Chg m m') (k : Alike m' m'') : Chg m m'' :=
  ⟨k.nw.trans h.nw, k.sz.trans h.sz, by rw [k.R]; exact h.R, by rw [k.f]; exact h.f, by rw [k.tpc, k.tps]; exact h.t, by rw [k.ol]; exact h.o0, by rw [k.ol]; exact h.o1, by rw [k.out]; exact h.o2⟩
theorem Chg.from_ {m m' m'' : MS} (h : Chg m' m'') (k : Alike m m') : Chg m m'' :=
  ⟨h.nw.trans k.nw, h.sz.trans k.sz, by rw [← k.R]; exact h.R, by rw [← k.f]; exact h.f, by rw [← k.tpc, ← k.tps]; exact h.t, by rw [← k.ol]; exact h.o0, by rw [← k.ol]; exact h.o1, by rw [← k.out, ← k.ol]; exact h.o2⟩
theorem Alike.chg {m m' : MS} (k : Alike m m') : Chg m m' := (Chg.refl m).alike k
theorem setR_one (R : Nat → Int) (n w b r v : Int) : ∃ j, ∀ i, i ≠ j → F3.setR R n w b r v i = R i := by
  unfold F3.setR
  split
  · exact ⟨0, fun _ _ => rfl⟩
  · exact ⟨F3.loc n w b r, fun i hi => F3.upd_ne _ _ hi⟩
theorem chg_set (m : MS) (r v : Int) : Chg m (m.set r v) := { Chg.refl m with R := setR_one _ _ _ _ _ _ }
theorem al (m m' : MS) (h1 : m'.nw = m.nw := by rfl) (h2 : m'.sz = m.sz := by rfl) (h3 : m'.R = m.R := by rfl) (h4 : m'.f = m.f := by rfl) (h5 : m'.tpc = m.tpc := by rfl) (h6 : m'.tps = m.tps := by rfl) (h7 : m'.ol = m.ol := by rfl) (h8 : m'.out = m.out := by rfl) : Alike m m' := ⟨h1, h2, h3, h4, h5, h6, h7, h8⟩
theorem chg_trap (m : MS) (b k pc : Int) : Chg m (m.trap b k pc) := { Chg.refl m with t := ⟨b.toNat, fun i hi => ⟨F3.upd_ne _ _ hi, F3.upd_ne _ _ hi⟩⟩ }
theorem chg_wnd (m : MS) (k pc : Int) : Chg m (m.wnd k pc) := by
  unfold MS.wnd
  split
  · exact chg_trap m _ _ _
  · exact (al m _).chg
theorem chg_byt (m : MS) (a many : Int) (v : Int) (h : thE m.sz a many = 0) (ha : 0 ≤ a) (hm : many = 1 ∨ many = 4) : Chg m (m.byt (stB m.f a.toNat many.toNat v)) := by
  refine { Chg.refl m with f := ⟨a.toNat / 4, fun i hi => ?_⟩ }
  show stB m.f a.toNat many.toNat v i = m.f i
  unfold stB
  rw [if_neg]
  intro hh
  rcases hm with rfl | rfl
  · apply hi; have : i = a.toNat := by omega
    rw [this]
  · have h4 : a % 4 = 0 := by
      unfold thE at h
      by_cases e : a % 4 = 0
      · exact e
      · rw [if_neg (by omega), if_pos ⟨rfl, e⟩] at h; cases h
    apply hi; omega
theorem chg_alu (m : MS) (o d a b : Int) : Chg m (mAlu m o d a b) := by
  unfold mAlu
  split
  · exact (chg_set m _ _).alike (al _ _)
  · exact (al m _).chg
theorem chg_flow (m : MS) (o d n a b : Int) : Chg m (mFlow m o d n a b) := by
  unfold mFlow
  split; · exact (chg_set m _ _).alike (al _ _)
  split; · exact (al m _).chg
  split
  · split
    · exact (al m _).chg
    · exact (al m _).chg
  split; · exact (chg_set m 15 m.pc).alike (al _ _)
  split; · exact (chg_set m d m.pc).alike (al _ _)
  split
  · split
    · exact chg_wnd m _ _
    · exact (chg_set (m.win ((m.cwp + m.nw - 1) % m.nw)) d ((a + b) % 4294967296)).from_ (al m _) |>.alike (al _ _)
  · split
    · exact chg_wnd m _ _
    · exact (chg_set (m.win ((m.cwp + 1) % m.nw)) d ((a + b) % 4294967296)).from_ (al m _) |>.alike (al _ _)
theorem chg_mem (m : MS) (o d at' : Int) (ha : 0 ≤ at') : Chg m (mMem m o d at') := by
  have ld : ∀ many, Chg m (mLd m d at' many) := fun many => by
    unfold mLd
    split
    · exact (chg_set m _ _).alike (al _ _)
    · exact (al m _).chg
  have st : ∀ many, many = 1 ∨ many = 4 → Chg m (mSt m d at' many) := fun many hm => by
    unfold mSt
    split
    · rename_i h; exact (chg_byt m _ _ _ h ha hm).alike (al _ _)
    · exact (al m _).chg
  unfold mMem
  split; · exact ld _
  split; · exact st _ (.inr rfl)
  split; · exact ld _
  exact st _ (.inl rfl)
theorem chg_state (m : MS) (o d n a b : Int) : Chg m (mState m o d n a b) := by
  unfold mState
  split; · exact (chg_set m _ _).alike (al _ _)
  split
  · split
    · exact (al m _).chg
    · exact (al m _).chg
  split; · exact (chg_set m _ _).alike (al _ _)
  split
  · split
    · exact (al m _).chg
    · exact (al m _).chg
  split; · exact (al m _).chg
  split; · exact (chg_set m _ _).alike (al _ _)
  split
  · split
    · exact { Chg.refl m with t := ⟨m.bank.toNat, fun i hi => ⟨rfl, F3.upd_ne _ _ hi⟩⟩ }
    · exact { Chg.refl m with t := ⟨m.bank.toNat, fun i hi => ⟨F3.upd_ne _ _ hi, rfl⟩⟩ }
  split
  · exact (al m _).chg
  · exact (al m _).chg
theorem chg_rest (m : MS) (o d n a : Int) : Chg m (mRest m o d n a) := by
  unfold mRest
  split; · exact chg_wnd m _ _
  split
  · split
    · exact (chg_set m.drop d (m.ch 0)).from_ (al m _) |>.alike (al _ _)
    · exact (chg_set m _ _).alike (al _ _)
  split
  · exact { Chg.refl m with o0 := Nat.le_succ _, o1 := Nat.le_refl _, o2 := fun i hi => F3.upd_ne _ _ (by omega) }
  split
  · exact (al m _).chg
  · exact (al m _).chg
theorem chg_exec (m : MS) (o d n a b : Int) : Chg m (mExec m o d n a b) := by
  unfold mExec
  split; · exact chg_alu m _ _ _ _
  split; · exact chg_flow m _ _ _ _ _
  split; · exact chg_mem m _ _ _ (Int.emod_nonneg _ (by decide))
  split; · exact chg_state m _ _ _ _ _
  exact chg_rest m _ _ _ _
theorem mstep_chg (m : MS) (lv : Int) : Chg m (mstep m lv) := by
  unfold mstep
  split; · exact Chg.refl m
  split
  · exact (chg_trap m lv (16 + lv) m.pc).alike (al _ _)
  split
  · unfold mWord
    split
    · exact chg_exec m _ _ _ _ _
    · exact (al m _).chg
  · exact (al m _).chg
end Go.Proofs.YtiobgnelhiadbaaGreatDoor.K6
