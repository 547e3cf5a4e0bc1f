/- lex (layer 12): numerals: ParseUint, FormatUint, value, register, number. -/
import Derived.Test.YthhbhfpdabiclaaGreatDoorLexAny
import Derived.Test.YthhbhfpdabiclaaGreatDoorLexNum
import Derived.Lib.LaidTab
import Derived.Shelf.Strconv.ToError
namespace Go.Proofs.YthhbhfpdabiclaaGreatDoor.L12
open Go.RowKit Go.Shelf Go.Sort
set_option linter.unusedVariables false
/-- The library's variables that the numerals' functions read. -/
structure LT (w : World) : Prop where
  pow : Lib.TabIs Tryz.prog w "internal/strconv.uint64pow10" .u64 Lib.pow10Tab
  es : ∃ te pe, w.cell? ⟨4, 0, none⟩ = some (.iface te pe)
  er : ∃ te pe, w.cell? ⟨5, 0, none⟩ = some (.iface te pe)
theorem tab_below {w w' : World} (h : Lib.TabIs Tryz.prog w "internal/strconv.uint64pow10" .u64 Lib.pow10Tab) (k : Below w.heap.size w w') : Lib.TabIs Tryz.prog w' "internal/strconv.uint64pow10" .u64 Lib.pow10Tab := by
  have hg : Tryz.prog.globalNamed "internal/strconv.uint64pow10" = some 1 := by kernel_rfl
  have hc := h.cell hg 0 (by decide)
  have hl := block_lt_of_cell hc
  unfold Lib.TabIs at h ⊢
  unfold World.var? at h ⊢
  rw [hg] at h ⊢
  simp only [Option.bind_some] at h ⊢
  rw [k.block _ hl]
  exact h
theorem LT.bel {w w' : World} (h : LT w) (k : Below w.heap.size w w') : LT w' :=
  ⟨tab_below h.pow k, by obtain ⟨te, pe, hc⟩ := h.es; exact ⟨te, pe, bel_cell k hc⟩, by obtain ⟨te, pe, hc⟩ := h.er; exact ⟨te, pe, bel_cell k hc⟩⟩
theorem below_grow (w : World) (k : Nat) (os : Array Obj) : Below w.heap.size w (grow (w.drewN k) os) := by
  refine ⟨rfl, rfl, rfl, ?_, fun i hi => ?_⟩
  · simp [grow, World.drewN]
  · simp [grow, World.drewN, hi, Array.getElem?_append_left]
theorem IndexAny_at (l : List UInt8) (hl : l.length ≤ 65536) (w : World) : Calls Tryz.prog 43 #[.string (St l), .string ws] w fun e w' => e = .returned (.int .i64 (Lib.indexAny l [32, 9, 13])) ∧ Below w.heap.size w w' := by
  by_cases h8 : 8 < l.length
  · have z := zero_of_info set116
    refine (Any.strings_IndexAny_long shIndexAny z.1 z.2 (St l) ws w (by decide) (by rw [St_size]; exact h8) (by rw [St_size]; omega) (by decide) ascii_ws).mono ?_
    rintro e w' ⟨rfl, rfl⟩
    exact ⟨rfl, ((Below.refl _ _).alloc (Nat.le_refl _) _).alloc (by simp) _⟩
  · exact IndexAny_short (St l) (by rw [St_size]; omega) w
theorem ParseIn_at (l : List UInt8) (hl : l.length ≤ 65536) (w : World) : Calls Tryz.prog 86 #[.string (St l), .int .i64 10, .int .i64 64] w fun e w' => e = .returned (Lib.uintTupleM 109 18446744073709551615 (Lib.parseUintB 64 l)) ∧ Below w.heap.size w w' := by
  refine (Any.internal_strconv_ParseUint_10_at64 shParseUint (St l) (by rw [St_size]; omega) w).mono ?_
  rintro e w' ⟨rfl, h⟩
  refine ⟨rfl, ?_⟩
  rcases h with rfl | rfl
  · exact Below.refl _ _
  · exact ⟨rfl, rfl, rfl, by rw [Lib.bytesWorld_size]; omega, fun i hi => Lib.bytesWorld_at_old w _ _ i hi⟩
theorem holds0 (w : World) (T : TypeId) (nd : Nat) (hs : nd ≤ 24) : Holds (fun (b : UInt8) => Value.int .u8 (b.toNat : Int)) (w.alloc (.cells Lib.zeros24 T)) w.heap.size 0 (Array.replicate nd (0 : UInt8)) := fun j hj => by
  have hj' : j < nd := by simpa using hj
  refine ⟨?_, World.frozen?_alloc_new _ _ _ _⟩
  rw [World.cell?_alloc_new, Lib.zeros24_at _ (by omega), getElem!_pos _ j hj]
  simp
theorem fin0 (w : World) (o : Obj) (dk : Array UInt8) (k : Nat) : Below w.heap.size w ((putRow (fun (b : UInt8) => Value.int .u8 (b.toNat : Int)) (w.alloc o) w.heap.size 0 dk).drewN k) := by
  rw [alloc_eq_grow]
  obtain ⟨os', _, e⟩ := putRow_grow_new (fun (b : UInt8) => Value.int .u8 (b.toNat : Int)) w #[o] w.heap.size 0 dk (Nat.le_refl _)
  rw [e]
  exact below_grow w k os'
set_option maxRecDepth 100000 in
set_option maxHeartbeats 4000000 in
theorem FormatIn_at (u : Nat) (hu : u < 18446744073709551616) (w : World) (hT : LT w) : Calls Tryz.prog 88 #[.int .u64 u, .int .i64 10] w fun e w' => e = .returned (.string (St (Lib.decDigits u))) ∧ Below w.heap.size w w' := by
  have HT := Lib.hid hT
  clear hT
  by_cases h100 : u < 100
  · have h1 : (u : Int) < 100 := by omega
    have S := Lib.hid (fun W => Any.internal_strconv_small shSmall u h100 W)
    have hw : IntKind.i64.wrap (u : Int) = u := IntWalk.i64_in _ (by omega)
    go_enter Tryz.func88, Tryz.ntmps88
    go_wp2_with fail
    refine (S.out _).mono ?_; rintro e w1 ⟨rfl, rfl⟩
    go_wp2_with fail
    go_ret
    exact ⟨rfl, Below.refl _ _⟩
  · have h1 : ¬ (u : Int) < 100 := by omega
    have hnd20 : Lib.nDigits u ≤ 20 := by have := Lib.numDigits_eq u (by omega) hu; split at this <;> omega
    have hH0 := holds0 w 99 (Lib.nDigits u) (by omega)
    have hfmt := Any.internal_strconv_formatBase10 shFormat w.heap.size 0 24 u (Array.replicate (Lib.nDigits u) 0) (w.alloc (.cells Lib.zeros24 99)) hH0 (by rw [Array.size_replicate]; exact Lib.lt_pow_nDigits u) hu (by rw [Array.size_replicate]; omega)
    rw [Array.size_replicate] at hfmt
    have HF := Lib.hid hfmt
    have HH0 := Lib.hid hH0
    have hal : Tryz.prog.arrayLen 99 = 24 := by kernel_rfl
    have hsl : ∀ W, (Instr.sliceAt 99 (.pointer (some ⟨w.heap.size, 0, none⟩)) none (some (.int .i64 (Lib.nDigits u : Int))) none).run Tryz.prog W = .ok (.slice (some ⟨w.heap.size, 0, none⟩) (Lib.nDigits u) 24) W := fun W => by
      rw [run_sliceAt_array_h W 99 ⟨w.heap.size, 0, none⟩ (by kernel_rfl) .i64 (Lib.nDigits u : Int) (by omega) (by rw [hal]; omega)]
      go_simp
      done
    have ND := Lib.hid (fun W hW => Any.internal_strconv_numDigits shNumDigits u (by omega) hu W hW)
    clear hH0 hfmt hal
    go_enter Tryz.func88, Tryz.ntmps88
    go_wp2_with fail
    refine (ND.out _ (HT.out.bel ((Below.refl _ _).alloc (Nat.le_refl _) _)).pow).mono ?_; rintro e w1 ⟨rfl, rfl⟩
    go_wp2_with fail
    refine HF.out.mono ?_; rintro e w1 ⟨rfl, k, v', dk, rfl, hF⟩
    have hcv : (convert 50 9 (.slice (some ⟨w.heap.size, 0, none⟩) (Lib.nDigits u) 24)).run Tryz.prog ((putRow (fun (b : UInt8) => Value.int .u8 (b.toNat : Int)) (w.alloc (.cells Lib.zeros24 99)) w.heap.size 0 dk).drewN k) = .ok (.string (St (Lib.decDigits u))) ((putRow (fun (b : UInt8) => Value.int .u8 (b.toNat : Int)) (w.alloc (.cells Lib.zeros24 99)) w.heap.size 0 dk).drewN k) := by
      have h := run_convert_bytes_back (P := Tryz.prog) ((putRow (fun (b : UInt8) => Value.int .u8 (b.toNat : Int)) (w.alloc (.cells Lib.zeros24 99)) w.heap.size 0 dk).drewN k) 50 9 5 ⟨w.heap.size, 0, none⟩ 24 (Lib.decDigits u) (by kernel_rfl) (by kernel_rfl) (by kernel_rfl) (fun j hj => by
        rw [Lib.row_is_numeral hF j hj, Lib.add_plain, World.cell?_drewN]
        exact cell?_putRow (fun (b : UInt8) => Value.int .u8 (b.toNat : Int)) _ w.heap.size 0 _ dk HH0.out (by rw [hF.size, Array.size_replicate]) j (by rw [hF.size]; rw [Lib.decDigits_length] at hj; exact hj))
      rw [Lib.decDigits_length] at h
      exact h
    have GB := Lib.hid (fin0 w (.cells Lib.zeros24 99) dk k)
    clear hF
    generalize ((putRow (fun (b : UInt8) => Value.int .u8 (b.toNat : Int)) (w.alloc (.cells Lib.zeros24 99)) w.heap.size 0 dk).drewN k) = W9 at hcv GB ⊢
    go_wp2_with fail
    go_ret
    exact ⟨rfl, GB.out⟩
theorem Format_at (u : Nat) (hu : u < 18446744073709551616) (w : World) (hT : LT w) : Calls Tryz.prog 71 #[.int .u64 u, .int .i64 10] w fun e w' => e = .returned (.string (St (Lib.decDigits u))) ∧ Below w.heap.size w w' := by
  have C := Lib.hid (FormatIn_at u hu w hT)
  clear hT
  go_enter Tryz.func71, Tryz.ntmps71
  go_wp2_with fail
  refine C.out.mono ?_; rintro e w1 ⟨rfl, g1⟩
  go_wp2_with fail
  go_ret
  exact ⟨rfl, g1⟩
/-- What ParseUint hands back: the number, or some error. -/
def ParseR (r : Lib.NumEnd Nat) (v : Value) : Prop := match r with
  | .ok u => v = .tuple #[.int .u64 u, .nilIface]
  | _ => ∃ n T p, v = .tuple #[.int .u64 n, .iface T p]
set_option maxRecDepth 100000 in
set_option maxHeartbeats 4000000 in
theorem Parse_at (l : List UInt8) (hl : l.length ≤ 65536) (w : World) (hT : LT w) : Calls Tryz.prog 70 #[.string (St l), .int .i64 10, .int .i64 64] w fun e w' => ∃ v, e = .returned v ∧ ParseR (Lib.parseUintB 64 l) v ∧ Below w.heap.size w w' := by
  have HT := Lib.hid hT
  have C := Lib.hid (ParseIn_at l hl w)
  clear hT
  rcases hp : Lib.parseUintB 64 l with u | _ | _
  ·
    rw [hp] at C
    simp only [Lib.uintTupleM] at C
    clear hp
    go_enter Tryz.func70, Tryz.ntmps70
    go_wp2_with fail
    refine C.out.mono ?_; rintro e w1 ⟨rfl, g1⟩
    go_wp2_with fail
    go_ret2
    exact ⟨_, rfl, rfl, g1⟩
  ·
    rw [hp] at C
    simp only [Lib.uintTupleM] at C
    clear hp
    go_enter Tryz.func70, Tryz.ntmps70
    go_wp2_with fail
    refine C.out.mono ?_; rintro e w1 ⟨rfl, g1⟩
    obtain ⟨te, pe, hc⟩ := (HT.out.bel g1).es
    have G1 := Lib.hid g1
    have E := Lib.hid (Any.strconv_toError_syntax shToError ⟨#[80, 97, 114, 115, 101, 85, 105, 110, 116]⟩ (St l) 10 64 _ w1 (by rw [St_size]; omega) hc (.inr ⟨te, pe, rfl⟩))
    clear g1 hc
    go_wp2_with fail
    refine E.out.mono ?_; rintro e w2 ⟨N, rfl, _, _, g2⟩
    have G2 := Lib.hid (bel_trans G1.out g2)
    clear g2
    go_wp2_with fail
    go_ret2
    exact ⟨_, rfl, ⟨_, _, _, rfl⟩, G2.out⟩
  ·
    rw [hp] at C
    simp only [Lib.uintTupleM] at C
    clear hp
    go_enter Tryz.func70, Tryz.ntmps70
    go_wp2_with fail
    refine C.out.mono ?_; rintro e w1 ⟨rfl, g1⟩
    obtain ⟨te, pe, hc⟩ := (HT.out.bel g1).er
    have G1 := Lib.hid g1
    have E := Lib.hid (Any.strconv_toError_range shToError ⟨#[80, 97, 114, 115, 101, 85, 105, 110, 116]⟩ (St l) 10 64 _ w1 (by rw [St_size]; omega) hc (.inr ⟨te, pe, rfl⟩))
    clear g1 hc
    go_wp2_with fail
    refine E.out.mono ?_; rintro e w2 ⟨N, rfl, _, _, g2⟩
    have G2 := Lib.hid (bel_trans G1.out g2)
    clear g2
    go_wp2_with fail
    go_ret2
    exact ⟨_, rfl, ⟨_, _, _, rfl⟩, G2.out⟩
end Go.Proofs.YthhbhfpdabiclaaGreatDoor.L12
