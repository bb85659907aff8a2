/-
  What a chunk stands for: the program.
-/
import Derived.Test.YtipgffikmnebnaaApP21
import Derived.Test.YtipgffikmnebnaaQuiet
import Derived.BigQuiet
namespace Go.Proofs.Ytipgffikmnebnaa
open Go.ChangeShapes Go.WideShapes Go.ChangeAt Go.RowKit

set_option maxRecDepth 100000
set_option linter.unusedVariables false
set_option linter.unusedSimpArgs false
theorem forgetW {P : Program} {c : Go.Code} {Q : Exit → Act → World → Prop} {a : Act} {W : World} (F : World → Prop) (hF : F W) (h : ∀ W', F W' → Code.wp P c Q a W') : Code.wp P c Q a W := h W hF

set_option maxHeartbeats 4000000 in
theorem piece_d1 (f m : Int) (d old : List UInt8) (ad ao : Option Addr) (cd co : Nat) (w : World) (hd : BytAt w (.slice ad d.length cd) d) (ho : BytAt w (.slice ao old.length co) old) (hco : old.length ≤ co ∧ co ≤ 9223372036854775807) (hdl : d.length ≤ 1048576) (hol : old.length ≤ 1048576) (hf : -9223372036854775808 ≤ f ∧ f ≤ 9223372036854775807) (h : 0 < d.length) (h1 : f = 0) (h2 : m = 0) :
    Calls Try.prog 79 #[.slice ao old.length co, .agg #[.int .i64 f, .int .i64 m, .slice ad d.length cd]] w fun e w' => ∃ b, e = .returned (.tuple #[.slice ad d.length cd, .bool b]) ∧ b = true ∧ Kept w w' := by
  have dd : decide (0 < (d.length : Int)) = true := decide_eq_true (by omega)
  have e1 : (f == 0) = true := by simp [h1]
  have e2 : (m == 0) = true := by simp [h2]
  clear h1 h2
  have HH := hd
  have HO := ho
  clear hd ho
  go_enter Try.func79, Try.ntmps79
  repeat (first | go_values | go_skip | go_guarded | go_step | go_upon)
  have LX := Loc.new w [.int .i64 f, .int .i64 m, .slice ad d.length cd] 108
  refine forgetW (fun W6 => Kept w W6 ∧ Loc W6 w.heap.size [.int .i64 f, .int .i64 m, .slice ad d.length cd]) ⟨(But.refl _ _ _).alloc _, LX⟩ ?_
  intro W6 hW6
  have x0 := hW6.2.cell 0 rfl
  have x1 := hW6.2.cell 1 rfl
  have x2 := hW6.2.cell 2 rfl
  have xl := hW6.2.lt
  have HK6 : Hid (Kept w W6) := hW6.1
  clear hW6 LX
  repeat (first | go_values | go_skip | go_guarded | go_step | go_upon)
  refine wp_region_kept (by kernel_rfl) (by kernel_rfl) ?_
  have hne := kw_some W6
  have hcc := KW.cell_eq W6
  have hcf := fun (x : KW W6) (b o : Nat) (hb : b < W6.heap.size) => x.k.frozen_eq b o hb
  repeat (first | (go_big_quiet_step (first | fail)) | (go_big_quiet_want; go_big_quiet_op; refine ⟨_, fun _ => (by with_reducible rfl), ?_⟩; go_big_quiet_on))
  refine wpQuiet_nil ?_
  rintro w5 ⟨⟨w8, k5⟩, h9⟩
  change w5 = w8 at h9
  subst h9
  clear hcc hne hcf
  repeat (first | go_values | go_skip | go_guarded | go_step | go_upon)
  go_ret2
  exact ⟨_, rfl, rfl, HK6.out.trans k5⟩

set_option maxHeartbeats 4000000 in
theorem piece_d2 (f m : Int) (d old : List UInt8) (ad ao : Option Addr) (cd co : Nat) (w : World) (hd : BytAt w (.slice ad d.length cd) d) (ho : BytAt w (.slice ao old.length co) old) (hco : old.length ≤ co ∧ co ≤ 9223372036854775807) (hdl : d.length ≤ 1048576) (hol : old.length ≤ 1048576) (hf : -9223372036854775808 ≤ f ∧ f ≤ 9223372036854775807) (h : 0 < d.length) (h1 : f ≠ 0) :
    Calls Try.prog 79 #[.slice ao old.length co, .agg #[.int .i64 f, .int .i64 m, .slice ad d.length cd]] w fun e w' => ∃ b, e = .returned (.tuple #[.slice ad d.length cd, .bool b]) ∧ b = false ∧ Kept w w' := by
  have dd : decide (0 < (d.length : Int)) = true := decide_eq_true (by omega)
  have e1 : (f == 0) = false := by simpa using h1
  clear h1
  have HH := hd
  have HO := ho
  clear hd ho
  go_enter Try.func79, Try.ntmps79
  repeat (first | go_values | go_skip | go_guarded | go_step | go_upon)
  have LX := Loc.new w [.int .i64 f, .int .i64 m, .slice ad d.length cd] 108
  refine forgetW (fun W6 => Kept w W6 ∧ Loc W6 w.heap.size [.int .i64 f, .int .i64 m, .slice ad d.length cd]) ⟨(But.refl _ _ _).alloc _, LX⟩ ?_
  intro W6 hW6
  have x0 := hW6.2.cell 0 rfl
  have x1 := hW6.2.cell 1 rfl
  have x2 := hW6.2.cell 2 rfl
  have xl := hW6.2.lt
  have HK6 : Hid (Kept w W6) := hW6.1
  clear hW6 LX
  repeat (first | go_values | go_skip | go_guarded | go_step | go_upon)
  refine wp_region_kept (by kernel_rfl) (by kernel_rfl) ?_
  have hne := kw_some W6
  have hcc := KW.cell_eq W6
  have hcf := fun (x : KW W6) (b o : Nat) (hb : b < W6.heap.size) => x.k.frozen_eq b o hb
  repeat (first | (go_big_quiet_step (first | fail)) | (go_big_quiet_want; go_big_quiet_op; refine ⟨_, fun _ => (by with_reducible rfl), ?_⟩; go_big_quiet_on))
  refine wpQuiet_nil ?_
  rintro w5 ⟨⟨w8, k5⟩, h9⟩
  change w5 = w8 at h9
  subst h9
  clear hcc hne hcf
  repeat (first | go_values | go_skip | go_guarded | go_step | go_upon)
  go_ret2
  exact ⟨_, rfl, rfl, HK6.out.trans k5⟩

set_option maxHeartbeats 4000000 in
theorem piece_d3 (f m : Int) (d old : List UInt8) (ad ao : Option Addr) (cd co : Nat) (w : World) (hd : BytAt w (.slice ad d.length cd) d) (ho : BytAt w (.slice ao old.length co) old) (hco : old.length ≤ co ∧ co ≤ 9223372036854775807) (hdl : d.length ≤ 1048576) (hol : old.length ≤ 1048576) (hf : -9223372036854775808 ≤ f ∧ f ≤ 9223372036854775807) (h : 0 < d.length) (h1 : f = 0) (h2 : m ≠ 0) :
    Calls Try.prog 79 #[.slice ao old.length co, .agg #[.int .i64 f, .int .i64 m, .slice ad d.length cd]] w fun e w' => ∃ b, e = .returned (.tuple #[.slice ad d.length cd, .bool b]) ∧ b = false ∧ Kept w w' := by
  have dd : decide (0 < (d.length : Int)) = true := decide_eq_true (by omega)
  have e1 : (f == 0) = true := by simp [h1]
  have e2 : (m == 0) = false := by simpa using h2
  clear h1 h2
  have HH := hd
  have HO := ho
  clear hd ho
  go_enter Try.func79, Try.ntmps79
  repeat (first | go_values | go_skip | go_guarded | go_step | go_upon)
  have LX := Loc.new w [.int .i64 f, .int .i64 m, .slice ad d.length cd] 108
  refine forgetW (fun W6 => Kept w W6 ∧ Loc W6 w.heap.size [.int .i64 f, .int .i64 m, .slice ad d.length cd]) ⟨(But.refl _ _ _).alloc _, LX⟩ ?_
  intro W6 hW6
  have x0 := hW6.2.cell 0 rfl
  have x1 := hW6.2.cell 1 rfl
  have x2 := hW6.2.cell 2 rfl
  have xl := hW6.2.lt
  have HK6 : Hid (Kept w W6) := hW6.1
  clear hW6 LX
  repeat (first | go_values | go_skip | go_guarded | go_step | go_upon)
  refine wp_region_kept (by kernel_rfl) (by kernel_rfl) ?_
  have hne := kw_some W6
  have hcc := KW.cell_eq W6
  have hcf := fun (x : KW W6) (b o : Nat) (hb : b < W6.heap.size) => x.k.frozen_eq b o hb
  repeat (first | (go_big_quiet_step (first | fail)) | (go_big_quiet_want; go_big_quiet_op; refine ⟨_, fun _ => (by with_reducible rfl), ?_⟩; go_big_quiet_on))
  refine wpQuiet_nil ?_
  rintro w5 ⟨⟨w8, k5⟩, h9⟩
  change w5 = w8 at h9
  subst h9
  clear hcc hne hcf
  repeat (first | go_values | go_skip | go_guarded | go_step | go_upon)
  go_ret2
  exact ⟨_, rfl, rfl, HK6.out.trans k5⟩

set_option maxHeartbeats 4000000 in
theorem piece_n1 (f m : Int) (d old : List UInt8) (ad ao : Option Addr) (cd co : Nat) (w : World) (hd : BytAt w (.slice ad d.length cd) d) (ho : BytAt w (.slice ao old.length co) old) (hco : old.length ≤ co ∧ co ≤ 9223372036854775807) (hdl : d.length ≤ 1048576) (hol : old.length ≤ 1048576) (hf : -9223372036854775808 ≤ f ∧ f ≤ 9223372036854775807) (h : ¬ 0 < d.length) (h1 : f < 0) :
    Calls Try.prog 79 #[.slice ao old.length co, .agg #[.int .i64 f, .int .i64 m, .slice ad d.length cd]] w fun e w' => e = .returned (.tuple #[.slice none 0 0, .bool false]) ∧ Kept w w' := by
  have dd : decide (0 < (d.length : Int)) = false := decide_eq_false (by omega)
  have e1 : decide (f < 0) = true := decide_eq_true h1
  have HH := hd
  have HO := ho
  clear hd ho
  go_enter Try.func79, Try.ntmps79
  repeat (first | go_values | go_skip | go_guarded | go_step | go_upon)
  go_ret2
  exact ⟨rfl, (But.refl _ _ _).alloc _⟩

set_option maxHeartbeats 4000000 in
theorem piece_n2 (f m : Int) (d old : List UInt8) (ad ao : Option Addr) (cd co : Nat) (w : World) (hd : BytAt w (.slice ad d.length cd) d) (ho : BytAt w (.slice ao old.length co) old) (hco : old.length ≤ co ∧ co ≤ 9223372036854775807) (hdl : d.length ≤ 1048576) (hol : old.length ≤ 1048576) (hf : -9223372036854775808 ≤ f ∧ f ≤ 9223372036854775807) (h : ¬ 0 < d.length) (h1 : ¬ f < 0) (h2 : m < 1) :
    Calls Try.prog 79 #[.slice ao old.length co, .agg #[.int .i64 f, .int .i64 m, .slice ad d.length cd]] w fun e w' => e = .returned (.tuple #[.slice none 0 0, .bool false]) ∧ Kept w w' := by
  have dd : decide (0 < (d.length : Int)) = false := decide_eq_false (by omega)
  have e1 : decide (f < 0) = false := decide_eq_false h1
  have e2 : decide (m < 1) = true := decide_eq_true h2
  have HH := hd
  have HO := ho
  clear hd ho
  go_enter Try.func79, Try.ntmps79
  repeat (first | go_values | go_skip | go_guarded | go_step | go_upon)
  go_ret2
  exact ⟨rfl, (But.refl _ _ _).alloc _⟩

set_option maxHeartbeats 4000000 in
theorem piece_n3 (f m : Int) (d old : List UInt8) (ad ao : Option Addr) (cd co : Nat) (w : World) (hd : BytAt w (.slice ad d.length cd) d) (ho : BytAt w (.slice ao old.length co) old) (hco : old.length ≤ co ∧ co ≤ 9223372036854775807) (hdl : d.length ≤ 1048576) (hol : old.length ≤ 1048576) (hf : -9223372036854775808 ≤ f ∧ f ≤ 9223372036854775807) (h : ¬ 0 < d.length) (h1 : ¬ f < 0) (h2 : ¬ m < 1) (h3 : (old.length : Int) - f < m) :
    Calls Try.prog 79 #[.slice ao old.length co, .agg #[.int .i64 f, .int .i64 m, .slice ad d.length cd]] w fun e w' => e = .returned (.tuple #[.slice none 0 0, .bool false]) ∧ Kept w w' := by
  have dd : decide (0 < (d.length : Int)) = false := decide_eq_false (by omega)
  have e1 : decide (f < 0) = false := decide_eq_false h1
  have e2 : decide (m < 1) = false := decide_eq_false h2
  have e3 : decide ((old.length : Int) - f < m) = true := decide_eq_true h3
  have HH := hd
  have HO := ho
  clear hd ho
  go_enter Try.func79, Try.ntmps79
  repeat (first | go_values | go_skip | go_guarded | go_step | go_upon)
  go_ret2
  exact ⟨rfl, (But.refl _ _ _).alloc _⟩

set_option maxHeartbeats 4000000 in
theorem piece_y (f m : Int) (d old : List UInt8) (ad ao : Option Addr) (cd co : Nat) (w : World) (hd : BytAt w (.slice ad d.length cd) d) (ho : BytAt w (.slice ao old.length co) old) (hco : old.length ≤ co ∧ co ≤ 9223372036854775807) (hdl : d.length ≤ 1048576) (hol : old.length ≤ 1048576) (hf : -9223372036854775808 ≤ f ∧ f ≤ 9223372036854775807) (h : ¬ 0 < d.length) (h1 : ¬ f < 0) (h2 : ¬ m < 1) (h3 : ¬ (old.length : Int) - f < m) :
    Calls Try.prog 79 #[.slice ao old.length co, .agg #[.int .i64 f, .int .i64 m, .slice ad d.length cd]] w fun e w' => ∃ a9 c9, e = .returned (.tuple #[.slice a9 ((old.drop f.toNat).take m.toNat).length c9, .bool true]) ∧ BytAt w (.slice a9 ((old.drop f.toNat).take m.toNat).length c9) ((old.drop f.toNat).take m.toNat) ∧ Kept w w' := by
  have dd : decide (0 < (d.length : Int)) = false := decide_eq_false (by omega)
  have e1 : decide (f < 0) = false := decide_eq_false h1
  have e2 : decide (m < 1) = false := decide_eq_false h2
  have e3 : decide ((old.length : Int) - f < m) = false := decide_eq_false h3
  have HWB : Hid (BytAt w (.slice (if co = f.toNat then ao else ao.map (·.add f.toNat)) ((old.drop f.toNat).take m.toNat).length (co - f.toNat)) ((old.drop f.toNat).take m.toNat)) := by
    have := win_byt (k := f.toNat) (m := m.toNat) ho (by omega) (by omega) hco.1
    rwa [show ((old.drop f.toNat).take m.toNat).length = m.toNat by simp; omega]
  have hlen : ((old.drop f.toNat).take m.toNat).length = (f + m - f).toNat := by simp; omega
  have hsl := fun W => slice_win W ao old.length co f (f + m) (by omega) (by omega) (by omega)
  rw [← hlen] at hsl
  generalize (old.drop f.toNat).take m.toNat = PP at *
  generalize (if co = f.toNat then ao else ao.map (·.add f.toNat)) = A9 at *
  generalize co - f.toNat = C9 at *
  clear hlen
  have HH := hd
  have HO := ho
  clear hd ho
  go_enter Try.func79, Try.ntmps79
  repeat (first | go_values | go_skip | go_guarded | go_step | go_upon)
  go_ret2
  exact ⟨_, _, rfl, HWB.out, (But.refl _ _ _).alloc _⟩

end Go.Proofs.Ytipgffikmnebnaa
