/- What valid of package inst comes to, for any instruction and any row of fields. -/
import Derived.Test.YtgbodbejcffclaaDoorInstSmall
import Derived.Test.YtgbodbejcffclaaDoorClass
import Derived.Deep.RegionWith
namespace Go.Proofs.YtgbodbejcffclaaDoor.I2
open Go.RowKit
set_option linter.unusedVariables false
/-- A world that has grown behind valid's two boxed arguments. -/
structure VW (w : World) (o d s t : Int) (b : Bool) (n : Int) (f0 f1 f2 f3 f4 : Bool) where
  W : World
  g : Grown ((w.alloc (.cells #[.int .u8 o, .int .u8 d, .int .u8 s, .int .u8 t, .bool b, .int .i32 n] 57)).alloc (.cells #[.bool f0, .bool f1, .bool f2, .bool f3, .bool f4] 62)) W
theorem VW.g1 {w : World} {o d s t : Int} {b : Bool} {n : Int} {f0 f1 f2 f3 f4 : Bool} (p : VW w o d s t b n f0 f1 f2 f3 f4) : Grown (w.alloc (.cells #[.int .u8 o, .int .u8 d, .int .u8 s, .int .u8 t, .bool b, .int .i32 n] 57)) p.W :=
  grown_trans ((Grown.refl _).alloc _ _) p.g
theorem VW.g0 {w : World} {o d s t : Int} {b : Bool} {n : Int} {f0 f1 f2 f3 f4 : Bool} (p : VW w o d s t b n f0 f1 f2 f3 f4) : Grown w p.W :=
  grown_trans ((Grown.refl _).alloc _ _) p.g1
theorem isfits_is (b f0 f1 f2 f3 f4 x : Bool) (w : World) (h : iF b f2 f3 = x) :
    Calls Tryd.prog 37 #[.bool b, .agg #[.bool f0, .bool f1, .bool f2, .bool f3, .bool f4]] w fun e w' => e = .returned (.bool x) ∧ Grown w w' := by
  subst h; exact isfits_any b f0 f1 f2 f3 f4 w
theorem rfits_is (r h : Int) (u x : Bool) (w : World) (hr : 0 ≤ r ∧ r ≤ 255) (hx : rf r u h = x) :
    Calls Tryd.prog 38 #[.int .u8 r, .bool u, .int .u8 h] w fun e w' => e = .returned (.bool x) ∧ w = w' := by
  subst hx; exact rfits_any r h u w hr
theorem nfits_is (o d s t : Int) (b : Bool) (n : Int) (x : Bool) (w : World) (ho : 0 ≤ o ∧ o ≤ 255) (hx : nF o b n = x) :
    Calls Tryd.prog 40 #[.agg #[.int .u8 o, .int .u8 d, .int .u8 s, .int .u8 t, .bool b, .int .i32 n]] w fun e w' => e = .returned (.bool x) ∧ Grown w w' := by
  subst hx; exact nfits_any o d s t b n w ho
theorem VW.cells (w : World) (o d s t : Int) (b : Bool) (n : Int) (f0 f1 f2 f3 f4 : Bool) (p : VW w o d s t b n f0 f1 f2 f3 f4) :
    p.W.cell? ⟨w.heap.size, 0, none⟩ = some (.int .u8 o) ∧ p.W.cell? ⟨w.heap.size, 1, none⟩ = some (.int .u8 d) ∧ p.W.cell? ⟨w.heap.size, 2, none⟩ = some (.int .u8 s) ∧ p.W.cell? ⟨w.heap.size, 3, none⟩ = some (.int .u8 t) ∧ p.W.cell? ⟨w.heap.size, 4, none⟩ = some (.bool b) ∧ p.W.cell? ⟨w.heap.size, 5, none⟩ = some (.int .i32 n)
    ∧ p.W.cell? ⟨w.heap.size + 1, 0, none⟩ = some (.bool f0) ∧ p.W.cell? ⟨w.heap.size + 1, 1, none⟩ = some (.bool f1) ∧ p.W.cell? ⟨w.heap.size + 1, 2, none⟩ = some (.bool f2) ∧ p.W.cell? ⟨w.heap.size + 1, 3, none⟩ = some (.bool f3) ∧ p.W.cell? ⟨w.heap.size + 1, 4, none⟩ = some (.bool f4) := by
  have z := size_new w #[.int .u8 o, .int .u8 d, .int .u8 s, .int .u8 t, .bool b, .int .i32 n] 57
  refine ⟨cell_new_grown p.g1 rfl, cell_new_grown p.g1 rfl, cell_new_grown p.g1 rfl, cell_new_grown p.g1 rfl, cell_new_grown p.g1 rfl, cell_new_grown p.g1 rfl, ?_, ?_, ?_, ?_, ?_⟩
  all_goals (rw [← z]; exact cell_new_grown p.g rfl)
set_option maxHeartbeats 2000000 in
theorem valid1 (o d s t : Int) (b : Bool) (n : Int) (f0 f1 f2 f3 f4 : Bool) (w : World) (ho : 0 ≤ o ∧ o ≤ 255) (hd : 0 ≤ d ∧ d ≤ 255) (hs : 0 ≤ s ∧ s ≤ 255) (ht : 0 ≤ t ∧ t ≤ 255) (h1 : iF b f2 f3 = false) :
    Calls Tryd.prog 31 #[.agg #[.int .u8 o, .int .u8 d, .int .u8 s, .int .u8 t, .bool b, .int .i32 n], .agg #[.bool f0, .bool f1, .bool f2, .bool f3, .bool f4]] w
      fun e w' => e = .returned (.bool false) ∧ Grown w w' := by
  have C := VW.cells w o d s t b n f0 f1 f2 f3 f4
  have c0 := fun p => (C p).1
  have c1 := fun p => (C p).2.1
  have c2 := fun p => (C p).2.2.1
  have c3 := fun p => (C p).2.2.2.1
  have c4 := fun p => (C p).2.2.2.2.1
  have c5 := fun p => (C p).2.2.2.2.2.1
  have e0 := fun p => (C p).2.2.2.2.2.2.1
  have e1 := fun p => (C p).2.2.2.2.2.2.2.1
  have e2 := fun p => (C p).2.2.2.2.2.2.2.2.1
  have e3 := fun p => (C p).2.2.2.2.2.2.2.2.2.1
  have e4 := fun p => (C p).2.2.2.2.2.2.2.2.2.2
  clear C
  have hne : Nonempty (VW w o d s t b n f0 f1 f2 f3 f4) := ⟨⟨_, Grown.refl _⟩⟩
  go_enter Tryd.func31, Tryd.ntmps31
  go_wp2_with fail
  refine wp_region_class (fun p : VW w o d s t b n f0 f1 f2 f3 f4 => p.W) (by kernel_rfl) (by kernel_rfl) ⟨⟨_, (Grown.refl _).drew⟩, rfl⟩ ?_
  repeat (go_big_quiet_step (first
    | (go_at_call 37; refine (isfits_is _ _ _ _ _ _ _ _ h1).mono ?_; rintro e w1 ⟨rfl, hg⟩; exact ⟨rfl, ⟨w1, grown_trans (VW.g _) hg⟩, rfl⟩)))
  refine wpQuiet_nil ?_
  intro _ hw
  obtain ⟨p, hw⟩ := hw
  subst hw
  go_wp2
  go_ret
  exact ⟨rfl, p.g0⟩
set_option maxHeartbeats 2000000 in
theorem valid2 (o d s t : Int) (b : Bool) (n : Int) (f0 f1 f2 f3 f4 : Bool) (w : World) (ho : 0 ≤ o ∧ o ≤ 255) (hd : 0 ≤ d ∧ d ≤ 255) (hs : 0 ≤ s ∧ s ≤ 255) (ht : 0 ≤ t ∧ t ≤ 255) (h1 : iF b f2 f3 = true) (h2 : rf d f0 (hR o) = false) :
    Calls Tryd.prog 31 #[.agg #[.int .u8 o, .int .u8 d, .int .u8 s, .int .u8 t, .bool b, .int .i32 n], .agg #[.bool f0, .bool f1, .bool f2, .bool f3, .bool f4]] w
      fun e w' => e = .returned (.bool false) ∧ Grown w w' := by
  have C := VW.cells w o d s t b n f0 f1 f2 f3 f4
  have c0 := fun p => (C p).1
  have c1 := fun p => (C p).2.1
  have c2 := fun p => (C p).2.2.1
  have c3 := fun p => (C p).2.2.2.1
  have c4 := fun p => (C p).2.2.2.2.1
  have c5 := fun p => (C p).2.2.2.2.2.1
  have e0 := fun p => (C p).2.2.2.2.2.2.1
  have e1 := fun p => (C p).2.2.2.2.2.2.2.1
  have e2 := fun p => (C p).2.2.2.2.2.2.2.2.1
  have e3 := fun p => (C p).2.2.2.2.2.2.2.2.2.1
  have e4 := fun p => (C p).2.2.2.2.2.2.2.2.2.2
  clear C
  have hne : Nonempty (VW w o d s t b n f0 f1 f2 f3 f4) := ⟨⟨_, Grown.refl _⟩⟩
  go_enter Tryd.func31, Tryd.ntmps31
  go_wp2_with fail
  refine wp_region_class (fun p : VW w o d s t b n f0 f1 f2 f3 f4 => p.W) (by kernel_rfl) (by kernel_rfl) ⟨⟨_, (Grown.refl _).drew⟩, rfl⟩ ?_
  repeat (go_big_quiet_step (first
    | (go_at_call 37; refine (isfits_is _ _ _ _ _ _ _ _ h1).mono ?_; rintro e w1 ⟨rfl, hg⟩; exact ⟨rfl, ⟨w1, grown_trans (VW.g _) hg⟩, rfl⟩)
    | (go_at_call 39; refine (highest_any _ _ ho).mono ?_; rintro e w1 ⟨rfl, rfl⟩; exact ⟨rfl, _, rfl⟩)
    | (go_at_call_of 38 (Value.int IntKind.u8 d); refine (rfits_is _ _ _ _ _ hd h2).mono ?_; rintro e w1 ⟨rfl, rfl⟩; exact ⟨rfl, _, rfl⟩)))
  refine wpQuiet_nil ?_
  intro _ hw
  obtain ⟨p, hw⟩ := hw
  subst hw
  go_wp2
  go_ret
  exact ⟨rfl, p.g0⟩
set_option maxHeartbeats 2000000 in
theorem valid3 (o d s t : Int) (b : Bool) (n : Int) (f0 f1 f2 f3 f4 : Bool) (w : World) (ho : 0 ≤ o ∧ o ≤ 255) (hd : 0 ≤ d ∧ d ≤ 255) (hs : 0 ≤ s ∧ s ≤ 255) (ht : 0 ≤ t ∧ t ≤ 255) (h1 : iF b f2 f3 = true) (h2 : rf d f0 (hR o) = true) (h3 : rf s f1 31 = false) :
    Calls Tryd.prog 31 #[.agg #[.int .u8 o, .int .u8 d, .int .u8 s, .int .u8 t, .bool b, .int .i32 n], .agg #[.bool f0, .bool f1, .bool f2, .bool f3, .bool f4]] w
      fun e w' => e = .returned (.bool false) ∧ Grown w w' := by
  have C := VW.cells w o d s t b n f0 f1 f2 f3 f4
  have c0 := fun p => (C p).1
  have c1 := fun p => (C p).2.1
  have c2 := fun p => (C p).2.2.1
  have c3 := fun p => (C p).2.2.2.1
  have c4 := fun p => (C p).2.2.2.2.1
  have c5 := fun p => (C p).2.2.2.2.2.1
  have e0 := fun p => (C p).2.2.2.2.2.2.1
  have e1 := fun p => (C p).2.2.2.2.2.2.2.1
  have e2 := fun p => (C p).2.2.2.2.2.2.2.2.1
  have e3 := fun p => (C p).2.2.2.2.2.2.2.2.2.1
  have e4 := fun p => (C p).2.2.2.2.2.2.2.2.2.2
  clear C
  have hne : Nonempty (VW w o d s t b n f0 f1 f2 f3 f4) := ⟨⟨_, Grown.refl _⟩⟩
  go_enter Tryd.func31, Tryd.ntmps31
  go_wp2_with fail
  refine wp_region_class (fun p : VW w o d s t b n f0 f1 f2 f3 f4 => p.W) (by kernel_rfl) (by kernel_rfl) ⟨⟨_, (Grown.refl _).drew⟩, rfl⟩ ?_
  repeat (go_big_quiet_step (first
    | (go_at_call 37; refine (isfits_is _ _ _ _ _ _ _ _ h1).mono ?_; rintro e w1 ⟨rfl, hg⟩; exact ⟨rfl, ⟨w1, grown_trans (VW.g _) hg⟩, rfl⟩)
    | (go_at_call 39; refine (highest_any _ _ ho).mono ?_; rintro e w1 ⟨rfl, rfl⟩; exact ⟨rfl, _, rfl⟩)
    | (go_at_call_of 38 (Value.int IntKind.u8 d); refine (rfits_is _ _ _ _ _ hd h2).mono ?_; rintro e w1 ⟨rfl, rfl⟩; exact ⟨rfl, _, rfl⟩)
    | (go_at_call_of 38 (Value.int IntKind.u8 s); refine (rfits_is _ _ _ _ _ hs h3).mono ?_; rintro e w1 ⟨rfl, rfl⟩; exact ⟨rfl, _, rfl⟩)))
  refine wpQuiet_nil ?_
  intro _ hw
  obtain ⟨p, hw⟩ := hw
  subst hw
  go_wp2
  go_ret
  exact ⟨rfl, p.g0⟩
set_option maxHeartbeats 2000000 in
theorem valid4f (o d s t : Int) (b : Bool) (n : Int) (f0 f1 f3 f4 : Bool) (w : World) (ho : 0 ≤ o ∧ o ≤ 255) (hd : 0 ≤ d ∧ d ≤ 255) (hs : 0 ≤ s ∧ s ≤ 255) (ht : 0 ≤ t ∧ t ≤ 255) (h1 : iF b false f3 = true) (h2 : rf d f0 (hR o) = true) (h3 : rf s f1 31 = true) (h4 : rf t (false) 31 = false) :
    Calls Tryd.prog 31 #[.agg #[.int .u8 o, .int .u8 d, .int .u8 s, .int .u8 t, .bool b, .int .i32 n], .agg #[.bool f0, .bool f1, .bool false, .bool f3, .bool f4]] w
      fun e w' => e = .returned (.bool false) ∧ Grown w w' := by
  have C := VW.cells w o d s t b n f0 f1 false f3 f4
  have c0 := fun p => (C p).1
  have c1 := fun p => (C p).2.1
  have c2 := fun p => (C p).2.2.1
  have c3 := fun p => (C p).2.2.2.1
  have c4 := fun p => (C p).2.2.2.2.1
  have c5 := fun p => (C p).2.2.2.2.2.1
  have e0 := fun p => (C p).2.2.2.2.2.2.1
  have e1 := fun p => (C p).2.2.2.2.2.2.2.1
  have e2 := fun p => (C p).2.2.2.2.2.2.2.2.1
  have e3 := fun p => (C p).2.2.2.2.2.2.2.2.2.1
  have e4 := fun p => (C p).2.2.2.2.2.2.2.2.2.2
  clear C
  have hne : Nonempty (VW w o d s t b n f0 f1 false f3 f4) := ⟨⟨_, Grown.refl _⟩⟩
  go_enter Tryd.func31, Tryd.ntmps31
  go_wp2_with fail
  refine wp_region_class (fun p : VW w o d s t b n f0 f1 false f3 f4 => p.W) (by kernel_rfl) (by kernel_rfl) ⟨⟨_, (Grown.refl _).drew⟩, rfl⟩ ?_
  repeat (go_big_quiet_step (first
    | (go_at_call 37; refine (isfits_is _ _ _ _ _ _ _ _ h1).mono ?_; rintro e w1 ⟨rfl, hg⟩; exact ⟨rfl, ⟨w1, grown_trans (VW.g _) hg⟩, rfl⟩)
    | (go_at_call 39; refine (highest_any _ _ ho).mono ?_; rintro e w1 ⟨rfl, rfl⟩; exact ⟨rfl, _, rfl⟩)
    | (go_at_call_of 38 (Value.int IntKind.u8 d); refine (rfits_is _ _ _ _ _ hd h2).mono ?_; rintro e w1 ⟨rfl, rfl⟩; exact ⟨rfl, _, rfl⟩)
    | (go_at_call_of 38 (Value.int IntKind.u8 s); refine (rfits_is _ _ _ _ _ hs h3).mono ?_; rintro e w1 ⟨rfl, rfl⟩; exact ⟨rfl, _, rfl⟩)
    | (go_at_call_of 38 (Value.int IntKind.u8 t); refine (rfits_is _ _ _ _ _ ht h4).mono ?_; rintro e w1 ⟨rfl, rfl⟩; exact ⟨rfl, _, rfl⟩)))
  refine wpQuiet_nil ?_
  intro _ hw
  obtain ⟨p, hw⟩ := hw
  subst hw
  go_wp2
  go_ret
  exact ⟨rfl, p.g0⟩
set_option maxHeartbeats 2000000 in
theorem valid5f (o d s t : Int) (b : Bool) (n : Int) (f0 f1 f3 f4 : Bool) (w : World) (ho : 0 ≤ o ∧ o ≤ 255) (hd : 0 ≤ d ∧ d ≤ 255) (hs : 0 ≤ s ∧ s ≤ 255) (ht : 0 ≤ t ∧ t ≤ 255) (h1 : iF b false f3 = true) (h2 : rf d f0 (hR o) = true) (h3 : rf s f1 31 = true) (h4 : rf t (false) 31 = true) (h5 : nF o b n = false) :
    Calls Tryd.prog 31 #[.agg #[.int .u8 o, .int .u8 d, .int .u8 s, .int .u8 t, .bool b, .int .i32 n], .agg #[.bool f0, .bool f1, .bool false, .bool f3, .bool f4]] w
      fun e w' => e = .returned (.bool false) ∧ Grown w w' := by
  have C := VW.cells w o d s t b n f0 f1 false f3 f4
  have c0 := fun p => (C p).1
  have c1 := fun p => (C p).2.1
  have c2 := fun p => (C p).2.2.1
  have c3 := fun p => (C p).2.2.2.1
  have c4 := fun p => (C p).2.2.2.2.1
  have c5 := fun p => (C p).2.2.2.2.2.1
  have e0 := fun p => (C p).2.2.2.2.2.2.1
  have e1 := fun p => (C p).2.2.2.2.2.2.2.1
  have e2 := fun p => (C p).2.2.2.2.2.2.2.2.1
  have e3 := fun p => (C p).2.2.2.2.2.2.2.2.2.1
  have e4 := fun p => (C p).2.2.2.2.2.2.2.2.2.2
  clear C
  have hne : Nonempty (VW w o d s t b n f0 f1 false f3 f4) := ⟨⟨_, Grown.refl _⟩⟩
  go_enter Tryd.func31, Tryd.ntmps31
  go_wp2_with fail
  refine wp_region_class (fun p : VW w o d s t b n f0 f1 false f3 f4 => p.W) (by kernel_rfl) (by kernel_rfl) ⟨⟨_, (Grown.refl _).drew⟩, rfl⟩ ?_
  repeat (go_big_quiet_step (first
    | (go_at_call 37; refine (isfits_is _ _ _ _ _ _ _ _ h1).mono ?_; rintro e w1 ⟨rfl, hg⟩; exact ⟨rfl, ⟨w1, grown_trans (VW.g _) hg⟩, rfl⟩)
    | (go_at_call 39; refine (highest_any _ _ ho).mono ?_; rintro e w1 ⟨rfl, rfl⟩; exact ⟨rfl, _, rfl⟩)
    | (go_at_call_of 38 (Value.int IntKind.u8 d); refine (rfits_is _ _ _ _ _ hd h2).mono ?_; rintro e w1 ⟨rfl, rfl⟩; exact ⟨rfl, _, rfl⟩)
    | (go_at_call_of 38 (Value.int IntKind.u8 s); refine (rfits_is _ _ _ _ _ hs h3).mono ?_; rintro e w1 ⟨rfl, rfl⟩; exact ⟨rfl, _, rfl⟩)
    | (go_at_call_of 38 (Value.int IntKind.u8 t); refine (rfits_is _ _ _ _ _ ht h4).mono ?_; rintro e w1 ⟨rfl, rfl⟩; exact ⟨rfl, _, rfl⟩)
    | (go_at_call 40; refine (nfits_is _ _ _ _ _ _ _ _ ho h5).mono ?_; rintro e w1 ⟨rfl, hg⟩; exact ⟨rfl, ⟨w1, grown_trans (VW.g _) hg⟩, rfl⟩)))
  refine wpQuiet_nil ?_
  intro _ hw
  obtain ⟨p, hw⟩ := hw
  subst hw
  go_wp2
  go_ret
  exact ⟨rfl, p.g0⟩
set_option maxHeartbeats 2000000 in
theorem valid6f (o d s t : Int) (b : Bool) (n : Int) (f0 f1 f3 f4 : Bool) (w : World) (ho : 0 ≤ o ∧ o ≤ 255) (hd : 0 ≤ d ∧ d ≤ 255) (hs : 0 ≤ s ∧ s ≤ 255) (ht : 0 ≤ t ∧ t ≤ 255) (h1 : iF b false f3 = true) (h2 : rf d f0 (hR o) = true) (h3 : rf s f1 31 = true) (h4 : rf t (false) 31 = true) (h5 : nF o b n = true) :
    Calls Tryd.prog 31 #[.agg #[.int .u8 o, .int .u8 d, .int .u8 s, .int .u8 t, .bool b, .int .i32 n], .agg #[.bool f0, .bool f1, .bool false, .bool f3, .bool f4]] w
      fun e w' => e = .returned (.bool true) ∧ Grown w w' := by
  have C := VW.cells w o d s t b n f0 f1 false f3 f4
  have c0 := fun p => (C p).1
  have c1 := fun p => (C p).2.1
  have c2 := fun p => (C p).2.2.1
  have c3 := fun p => (C p).2.2.2.1
  have c4 := fun p => (C p).2.2.2.2.1
  have c5 := fun p => (C p).2.2.2.2.2.1
  have e0 := fun p => (C p).2.2.2.2.2.2.1
  have e1 := fun p => (C p).2.2.2.2.2.2.2.1
  have e2 := fun p => (C p).2.2.2.2.2.2.2.2.1
  have e3 := fun p => (C p).2.2.2.2.2.2.2.2.2.1
  have e4 := fun p => (C p).2.2.2.2.2.2.2.2.2.2
  clear C
  have hne : Nonempty (VW w o d s t b n f0 f1 false f3 f4) := ⟨⟨_, Grown.refl _⟩⟩
  go_enter Tryd.func31, Tryd.ntmps31
  go_wp2_with fail
  refine wp_region_class (fun p : VW w o d s t b n f0 f1 false f3 f4 => p.W) (by kernel_rfl) (by kernel_rfl) ⟨⟨_, (Grown.refl _).drew⟩, rfl⟩ ?_
  repeat (go_big_quiet_step (first
    | (go_at_call 37; refine (isfits_is _ _ _ _ _ _ _ _ h1).mono ?_; rintro e w1 ⟨rfl, hg⟩; exact ⟨rfl, ⟨w1, grown_trans (VW.g _) hg⟩, rfl⟩)
    | (go_at_call 39; refine (highest_any _ _ ho).mono ?_; rintro e w1 ⟨rfl, rfl⟩; exact ⟨rfl, _, rfl⟩)
    | (go_at_call_of 38 (Value.int IntKind.u8 d); refine (rfits_is _ _ _ _ _ hd h2).mono ?_; rintro e w1 ⟨rfl, rfl⟩; exact ⟨rfl, _, rfl⟩)
    | (go_at_call_of 38 (Value.int IntKind.u8 s); refine (rfits_is _ _ _ _ _ hs h3).mono ?_; rintro e w1 ⟨rfl, rfl⟩; exact ⟨rfl, _, rfl⟩)
    | (go_at_call_of 38 (Value.int IntKind.u8 t); refine (rfits_is _ _ _ _ _ ht h4).mono ?_; rintro e w1 ⟨rfl, rfl⟩; exact ⟨rfl, _, rfl⟩)
    | (go_at_call 40; refine (nfits_is _ _ _ _ _ _ _ _ ho h5).mono ?_; rintro e w1 ⟨rfl, hg⟩; exact ⟨rfl, ⟨w1, grown_trans (VW.g _) hg⟩, rfl⟩)))
  refine wpQuiet_nil ?_
  intro _ hw
  obtain ⟨p, hw⟩ := hw
  subst hw
  go_wp2
  go_ret
  exact ⟨rfl, p.g0⟩
set_option maxHeartbeats 2000000 in
theorem valid4t (o d s t : Int) (b : Bool) (n : Int) (f0 f1 f3 f4 : Bool) (w : World) (ho : 0 ≤ o ∧ o ≤ 255) (hd : 0 ≤ d ∧ d ≤ 255) (hs : 0 ≤ s ∧ s ≤ 255) (ht : 0 ≤ t ∧ t ≤ 255) (h1 : iF b true f3 = true) (h2 : rf d f0 (hR o) = true) (h3 : rf s f1 31 = true) (h4 : rf t (!b) 31 = false) :
    Calls Tryd.prog 31 #[.agg #[.int .u8 o, .int .u8 d, .int .u8 s, .int .u8 t, .bool b, .int .i32 n], .agg #[.bool f0, .bool f1, .bool true, .bool f3, .bool f4]] w
      fun e w' => e = .returned (.bool false) ∧ Grown w w' := by
  have C := VW.cells w o d s t b n f0 f1 true f3 f4
  have c0 := fun p => (C p).1
  have c1 := fun p => (C p).2.1
  have c2 := fun p => (C p).2.2.1
  have c3 := fun p => (C p).2.2.2.1
  have c4 := fun p => (C p).2.2.2.2.1
  have c5 := fun p => (C p).2.2.2.2.2.1
  have e0 := fun p => (C p).2.2.2.2.2.2.1
  have e1 := fun p => (C p).2.2.2.2.2.2.2.1
  have e2 := fun p => (C p).2.2.2.2.2.2.2.2.1
  have e3 := fun p => (C p).2.2.2.2.2.2.2.2.2.1
  have e4 := fun p => (C p).2.2.2.2.2.2.2.2.2.2
  clear C
  have hne : Nonempty (VW w o d s t b n f0 f1 true f3 f4) := ⟨⟨_, Grown.refl _⟩⟩
  go_enter Tryd.func31, Tryd.ntmps31
  go_wp2_with fail
  refine wp_region_class (fun p : VW w o d s t b n f0 f1 true f3 f4 => p.W) (by kernel_rfl) (by kernel_rfl) ⟨⟨_, (Grown.refl _).drew⟩, rfl⟩ ?_
  repeat (go_big_quiet_step (first
    | (go_at_call 37; refine (isfits_is _ _ _ _ _ _ _ _ h1).mono ?_; rintro e w1 ⟨rfl, hg⟩; exact ⟨rfl, ⟨w1, grown_trans (VW.g _) hg⟩, rfl⟩)
    | (go_at_call 39; refine (highest_any _ _ ho).mono ?_; rintro e w1 ⟨rfl, rfl⟩; exact ⟨rfl, _, rfl⟩)
    | (go_at_call_of 38 (Value.int IntKind.u8 d); refine (rfits_is _ _ _ _ _ hd h2).mono ?_; rintro e w1 ⟨rfl, rfl⟩; exact ⟨rfl, _, rfl⟩)
    | (go_at_call_of 38 (Value.int IntKind.u8 s); refine (rfits_is _ _ _ _ _ hs h3).mono ?_; rintro e w1 ⟨rfl, rfl⟩; exact ⟨rfl, _, rfl⟩)
    | (go_at_call_of 38 (Value.int IntKind.u8 t); refine (rfits_is _ _ _ _ _ ht h4).mono ?_; rintro e w1 ⟨rfl, rfl⟩; exact ⟨rfl, _, rfl⟩)))
  refine wpQuiet_nil ?_
  intro _ hw
  obtain ⟨p, hw⟩ := hw
  subst hw
  go_wp2
  go_ret
  exact ⟨rfl, p.g0⟩
set_option maxHeartbeats 2000000 in
theorem valid5t (o d s t : Int) (b : Bool) (n : Int) (f0 f1 f3 f4 : Bool) (w : World) (ho : 0 ≤ o ∧ o ≤ 255) (hd : 0 ≤ d ∧ d ≤ 255) (hs : 0 ≤ s ∧ s ≤ 255) (ht : 0 ≤ t ∧ t ≤ 255) (h1 : iF b true f3 = true) (h2 : rf d f0 (hR o) = true) (h3 : rf s f1 31 = true) (h4 : rf t (!b) 31 = true) (h5 : nF o b n = false) :
    Calls Tryd.prog 31 #[.agg #[.int .u8 o, .int .u8 d, .int .u8 s, .int .u8 t, .bool b, .int .i32 n], .agg #[.bool f0, .bool f1, .bool true, .bool f3, .bool f4]] w
      fun e w' => e = .returned (.bool false) ∧ Grown w w' := by
  have C := VW.cells w o d s t b n f0 f1 true f3 f4
  have c0 := fun p => (C p).1
  have c1 := fun p => (C p).2.1
  have c2 := fun p => (C p).2.2.1
  have c3 := fun p => (C p).2.2.2.1
  have c4 := fun p => (C p).2.2.2.2.1
  have c5 := fun p => (C p).2.2.2.2.2.1
  have e0 := fun p => (C p).2.2.2.2.2.2.1
  have e1 := fun p => (C p).2.2.2.2.2.2.2.1
  have e2 := fun p => (C p).2.2.2.2.2.2.2.2.1
  have e3 := fun p => (C p).2.2.2.2.2.2.2.2.2.1
  have e4 := fun p => (C p).2.2.2.2.2.2.2.2.2.2
  clear C
  have hne : Nonempty (VW w o d s t b n f0 f1 true f3 f4) := ⟨⟨_, Grown.refl _⟩⟩
  go_enter Tryd.func31, Tryd.ntmps31
  go_wp2_with fail
  refine wp_region_class (fun p : VW w o d s t b n f0 f1 true f3 f4 => p.W) (by kernel_rfl) (by kernel_rfl) ⟨⟨_, (Grown.refl _).drew⟩, rfl⟩ ?_
  repeat (go_big_quiet_step (first
    | (go_at_call 37; refine (isfits_is _ _ _ _ _ _ _ _ h1).mono ?_; rintro e w1 ⟨rfl, hg⟩; exact ⟨rfl, ⟨w1, grown_trans (VW.g _) hg⟩, rfl⟩)
    | (go_at_call 39; refine (highest_any _ _ ho).mono ?_; rintro e w1 ⟨rfl, rfl⟩; exact ⟨rfl, _, rfl⟩)
    | (go_at_call_of 38 (Value.int IntKind.u8 d); refine (rfits_is _ _ _ _ _ hd h2).mono ?_; rintro e w1 ⟨rfl, rfl⟩; exact ⟨rfl, _, rfl⟩)
    | (go_at_call_of 38 (Value.int IntKind.u8 s); refine (rfits_is _ _ _ _ _ hs h3).mono ?_; rintro e w1 ⟨rfl, rfl⟩; exact ⟨rfl, _, rfl⟩)
    | (go_at_call_of 38 (Value.int IntKind.u8 t); refine (rfits_is _ _ _ _ _ ht h4).mono ?_; rintro e w1 ⟨rfl, rfl⟩; exact ⟨rfl, _, rfl⟩)
    | (go_at_call 40; refine (nfits_is _ _ _ _ _ _ _ _ ho h5).mono ?_; rintro e w1 ⟨rfl, hg⟩; exact ⟨rfl, ⟨w1, grown_trans (VW.g _) hg⟩, rfl⟩)))
  refine wpQuiet_nil ?_
  intro _ hw
  obtain ⟨p, hw⟩ := hw
  subst hw
  go_wp2
  go_ret
  exact ⟨rfl, p.g0⟩
set_option maxHeartbeats 2000000 in
theorem valid6t (o d s t : Int) (b : Bool) (n : Int) (f0 f1 f3 f4 : Bool) (w : World) (ho : 0 ≤ o ∧ o ≤ 255) (hd : 0 ≤ d ∧ d ≤ 255) (hs : 0 ≤ s ∧ s ≤ 255) (ht : 0 ≤ t ∧ t ≤ 255) (h1 : iF b true f3 = true) (h2 : rf d f0 (hR o) = true) (h3 : rf s f1 31 = true) (h4 : rf t (!b) 31 = true) (h5 : nF o b n = true) :
    Calls Tryd.prog 31 #[.agg #[.int .u8 o, .int .u8 d, .int .u8 s, .int .u8 t, .bool b, .int .i32 n], .agg #[.bool f0, .bool f1, .bool true, .bool f3, .bool f4]] w
      fun e w' => e = .returned (.bool true) ∧ Grown w w' := by
  have C := VW.cells w o d s t b n f0 f1 true f3 f4
  have c0 := fun p => (C p).1
  have c1 := fun p => (C p).2.1
  have c2 := fun p => (C p).2.2.1
  have c3 := fun p => (C p).2.2.2.1
  have c4 := fun p => (C p).2.2.2.2.1
  have c5 := fun p => (C p).2.2.2.2.2.1
  have e0 := fun p => (C p).2.2.2.2.2.2.1
  have e1 := fun p => (C p).2.2.2.2.2.2.2.1
  have e2 := fun p => (C p).2.2.2.2.2.2.2.2.1
  have e3 := fun p => (C p).2.2.2.2.2.2.2.2.2.1
  have e4 := fun p => (C p).2.2.2.2.2.2.2.2.2.2
  clear C
  have hne : Nonempty (VW w o d s t b n f0 f1 true f3 f4) := ⟨⟨_, Grown.refl _⟩⟩
  go_enter Tryd.func31, Tryd.ntmps31
  go_wp2_with fail
  refine wp_region_class (fun p : VW w o d s t b n f0 f1 true f3 f4 => p.W) (by kernel_rfl) (by kernel_rfl) ⟨⟨_, (Grown.refl _).drew⟩, rfl⟩ ?_
  repeat (go_big_quiet_step (first
    | (go_at_call 37; refine (isfits_is _ _ _ _ _ _ _ _ h1).mono ?_; rintro e w1 ⟨rfl, hg⟩; exact ⟨rfl, ⟨w1, grown_trans (VW.g _) hg⟩, rfl⟩)
    | (go_at_call 39; refine (highest_any _ _ ho).mono ?_; rintro e w1 ⟨rfl, rfl⟩; exact ⟨rfl, _, rfl⟩)
    | (go_at_call_of 38 (Value.int IntKind.u8 d); refine (rfits_is _ _ _ _ _ hd h2).mono ?_; rintro e w1 ⟨rfl, rfl⟩; exact ⟨rfl, _, rfl⟩)
    | (go_at_call_of 38 (Value.int IntKind.u8 s); refine (rfits_is _ _ _ _ _ hs h3).mono ?_; rintro e w1 ⟨rfl, rfl⟩; exact ⟨rfl, _, rfl⟩)
    | (go_at_call_of 38 (Value.int IntKind.u8 t); refine (rfits_is _ _ _ _ _ ht h4).mono ?_; rintro e w1 ⟨rfl, rfl⟩; exact ⟨rfl, _, rfl⟩)
    | (go_at_call 40; refine (nfits_is _ _ _ _ _ _ _ _ ho h5).mono ?_; rintro e w1 ⟨rfl, hg⟩; exact ⟨rfl, ⟨w1, grown_trans (VW.g _) hg⟩, rfl⟩)))
  refine wpQuiet_nil ?_
  intro _ hw
  obtain ⟨p, hw⟩ := hw
  subst hw
  go_wp2
  go_ret
  exact ⟨rfl, p.g0⟩
/-- What valid comes to. -/
theorem valid_any (o d s t : Int) (b : Bool) (n : Int) (f0 f1 f2 f3 f4 : Bool) (w : World) (ho : 0 ≤ o ∧ o ≤ 255) (hd : 0 ≤ d ∧ d ≤ 255) (hs : 0 ≤ s ∧ s ≤ 255) (ht : 0 ≤ t ∧ t ≤ 255) :
    Calls Tryd.prog 31 #[.agg #[.int .u8 o, .int .u8 d, .int .u8 s, .int .u8 t, .bool b, .int .i32 n], .agg #[.bool f0, .bool f1, .bool f2, .bool f3, .bool f4]] w
      fun e w' => e = .returned (.bool (iF b f2 f3 && rf d f0 (hR o) && rf s f1 31 && rf t (f2 && !b) 31 && nF o b n)) ∧ Grown w w' := by
  cases h1 : iF b f2 f3
  · exact valid1 o d s t b n f0 f1 f2 f3 f4 w ho hd hs ht h1
  cases h2 : rf d f0 (hR o)
  · exact valid2 o d s t b n f0 f1 f2 f3 f4 w ho hd hs ht h1 h2
  cases h3 : rf s f1 31
  · exact valid3 o d s t b n f0 f1 f2 f3 f4 w ho hd hs ht h1 h2 h3
  cases f2
  · cases h4 : rf t (false && !b) 31
    · exact valid4f o d s t b n f0 f1 f3 f4 w ho hd hs ht h1 h2 h3 h4
    cases h5 : nF o b n
    · exact valid5f o d s t b n f0 f1 f3 f4 w ho hd hs ht h1 h2 h3 h4 h5
    · exact valid6f o d s t b n f0 f1 f3 f4 w ho hd hs ht h1 h2 h3 h4 h5
  · cases h4 : rf t (true && !b) 31
    · exact valid4t o d s t b n f0 f1 f3 f4 w ho hd hs ht h1 h2 h3 h4
    cases h5 : nF o b n
    · exact valid5t o d s t b n f0 f1 f3 f4 w ho hd hs ht h1 h2 h3 h4 h5
    · exact valid6t o d s t b n f0 f1 f3 f4 w ho hd hs ht h1 h2 h3 h4 h5
end Go.Proofs.YtgbodbejcffclaaDoor.I2
