/- A row's last step where of the world behind the call one thing is known: of what was there nothing has turned ('Below'). -/
import Derived.Test.YthhbhfpdabiclaaGreatDoorRows
import Derived.Below
import Derived.ChangeSame
namespace Go.Proofs.YthhbhfpdabiclaaGreatDoor
open Go.RowKit Go.WideShapes Go.ChangeShapes
theorem post_kept {H : Type} {enc : TypeId × Value → H} {P : Program} {f : Func} {s : ChangeSpec} {apart fresh handsOn again : Bool} {W W' : World} {args : Array Value} {v : Value} {ds gs : List (DataW H)} {before pa pv : List MemPlace}
    (hg : Below W.heap.size W W')
    (hW : DataW.Whole enc P f.params.toList s.vars apart W args.toList ds gs before)
    (hr : ∀ (b : Nat) (sp : Nat → Bool) (hd : Bool), DataW.TrodAll enc P W' b sp hd f.resultTypes.toList (v.resultList f.resultTypes.size) (s.fn H (ds ++ gs)).results [])
    (ha : ∀ sp : Nat → Bool, (∀ p ∈ before, sp p.block = true) → DataW.TrodAll enc P W' 0 sp true f.params.toList args.toList (s.fn H (ds ++ gs)).args pa)
    (hv : ∀ sp : Nat → Bool, (∀ p ∈ before, sp p.block = true) → DataW.TrodVars enc P W' sp s.vars (s.fn H (ds ++ gs)).vars pv)
    (hp : before = pa ++ pv)
    (hok : ∀ (j : Nat) (t : TypeId) (r : Value), f.resultTypes[j]? = some t → (v.resultList f.resultTypes.size)[j]? = some r → Value.okWide P W' .any 0 t r) :
    s.post enc P f apart fresh handsOn again W args v W' := by
  have old : ∀ p ∈ before, p.block < W.heap.size := fun p h => hW.lt p h
  have yes : ∀ sp : Nat → Bool, (∀ b, b < W.heap.size → sp b = true) → ∀ p ∈ before, sp p.block = true := fun sp h p hp => h _ (old p hp)
  have wide := trodAll_append (ha (fun _ => true) (fun _ _ => rfl)) (hr 0 (fun _ => true) true)
  have again' : DataW.Whole enc P (f.resultTypes.toList ++ f.params.toList) s.vars apart W' (v.resultList f.resultTypes.size ++ args.toList) ((s.fn H (ds ++ gs)).results ++ (s.fn H (ds ++ gs)).args) (s.fn H (ds ++ gs)).vars (pa ++ pv) := by
    refine ⟨pa, pv, wide, hv (fun _ => true) (fun _ _ => rfl), rfl, ?_, ?_⟩
    · intro b off h
      have hin : MemPlace.cell b off ∈ before := hp ▸ h
      obtain ⟨_, _, _, _, _, hz, _⟩ := hW
      exact (hg.frozen (p := ⟨b, off, none⟩) (old _ hin)).trans (hz b off hin)
    · obtain ⟨_, _, _, _, _, _, hn⟩ := hW
      exact fun h => hp ▸ hn h
  have keeps : W.keptBut W' fun p => p ∈ before ∧ (p ∈ ([] : List MemPlace) ∨ p ∈ pa ∨ p ∈ pv) :=
    World.keptBut_mono (fun p (h : p ∈ before) => ⟨h, Or.inr (List.mem_append.1 (hp ▸ h))⟩) (hg.frame (· ∈ before))
  have back : ∀ p ∈ pa ++ pv, p.block < W.heap.size → p ∈ before := fun p h _ => by rw [hp]; exact h
  exact ⟨ds, gs, before, [], pa, pv, hW, hr _ _ _, ha _ (yes _ fun b h => decide_eq_true h), hv _ (yes _ fun b h => decide_eq_true h), keeps, fun _ => ⟨hok, _, _, pa ++ pv, again', back⟩⟩
end Go.Proofs.YthhbhfpdabiclaaGreatDoor
