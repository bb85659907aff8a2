/-
  What the program calls of the library strings.
-/
import Derived.Test.YtaofilinejanjaaDoorWrapP18
import Derived.Test.YtaofilinejanjaaDoorShelf
import Derived.Test.YtaofilinejanjaaDoorTxt
import Derived.Test.YtaofilinejanjaaDoorApp18
namespace Go.Proofs.YtaofilinejanjaaDoor
open Go.ChangeShapes Go.WideShapes Go.ChangeAt Go.RowKit

set_option maxRecDepth 100000
set_option linter.unusedVariables false

theorem itrimR (s : ByteArray) (w : World) (hs : s.size ≤ 1048576) : Calls Tryd.prog 39 #[.string s, .string ⟨#[32]⟩] w fun e w' => e = .returned (.string (trimR s)) ∧ w' = w := Any.strings_TrimRight_one Tryd.lays162 s 32 (by decide) w (by omega)
theorem itrimL (s : ByteArray) (w : World) : Calls Tryd.prog 40 #[.string s, .string ⟨#[32]⟩] w fun e w' => e = .returned (.string (trimL s)) ∧ w' = w := Any.strings_TrimLeft_one Tryd.lays161 s 32 (by decide) w
theorem isplit (s : ByteArray) (w : World) (hs : s.size ≤ 1048576) (hm : ∃ m, w.cell? ⟨0, 0, none⟩ = some (.int .i64 m)) : Calls Tryd.prog 28 #[.string s, .string ⟨#[10]⟩] w fun e w' => ∃ ao cap, e = .returned (.slice ao (splF s s.size 0 0).length cap) ∧ TxtAt w' (.slice ao (splF s s.size 0 0).length cap) (splF s s.size 0 0) ∧ Kept w w' := by
  obtain ⟨m, hm⟩ := hm
  have h := Any.strings_Split { Tryd.laysM146 with } Tryd.laysM146.i9 s ⟨#[10]⟩ m w (by omega) hm (by decide)
  refine h.mono ?_
  rintro e w' ⟨rfl, rfl⟩
  obtain ⟨h1, h2⟩ := spl_lib s.size s rfl
  refine ⟨some ⟨w.heap.size, 0, none⟩, Lib.countB s ⟨#[10]⟩ + 1, by rw [← h1, h2], ?_, (But.refl _ _ w).alloc _⟩
  refine ⟨some ⟨w.heap.size, 0, none⟩, Lib.countB s ⟨#[10]⟩ + 1, rfl, fun j u hj => ⟨w.heap.size, 0, rfl, ?_⟩⟩
  have e : ∀ q : List ByteArray, q.flatMap txtC = q.map Value.string := fun q => by
    induction q with
    | nil => rfl
    | cons a q ih => rw [List.flatMap_cons, ih]; rfl
  rw [e, ← h1] at hj
  have := (Loc.new w ((Lib.splitB ⟨#[10]⟩ 0 (Lib.countB s ⟨#[10]⟩) s).map Value.string) 9).cell j hj
  simpa using this
theorem sl_to (t : ByteArray) (k : Nat) (j : Int) (hj : j = (k : Int)) (h : k ≤ t.size) (W : World) : (Instr.slice 9 (.string t) none (some (.int .i64 j)) none).run Tryd.prog W = .ok (.string (t.extract 0 k)) W := by
  subst hj
  rw [run_slice_string_h W 9 t Tryd.underlying9 .i64 (k : Int) (by omega) (by omega)]
  simp
theorem sl_from (t : ByteArray) (k : Nat) (j : Int) (hj : j = (k : Int)) (h : k ≤ t.size) (W : World) : (Instr.slice 9 (.string t) (some (.int .i64 j)) none none).run Tryd.prog W = .ok (.string (t.extract k t.size)) W := by
  subst hj
  rw [run_slice_string_l W 9 t Tryd.underlying9 .i64 (k : Int) (by omega) (by omega)]
  simp

end Go.Proofs.YtaofilinejanjaaDoor
