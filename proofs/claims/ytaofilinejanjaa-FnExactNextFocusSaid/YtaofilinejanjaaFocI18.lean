/-
  How far it is from one to another, in the program.
-/
import Derived.Test.YtaofilinejanjaaFocL18
namespace Go.Proofs.Ytaofilinejanjaa
open Go.ChangeShapes Go.WideShapes Go.ChangeAt Go.RowKit

set_option maxRecDepth 100000
set_option linter.unusedVariables false

theorem wr1 {x : Int} (h : -1000000000 ≤ x ∧ x ≤ 1000000000) : IntKind.i64.wrap x = x := IntWalk.i64_in _ (by omega)

set_option maxHeartbeats 8000000 in
theorem isteps (a p : PlacedD) (way : Int) (ha : PlOk a) (hp : PlOk p) (hw : 0 ≤ way ∧ way ≤ 3) (w : World) :
    Calls Try.prog 46 #[.agg #[.int .i64 a.1, .int .i64 a.2.1, .int .i64 a.2.2.1, .int .i64 a.2.2.2], .agg #[.int .i64 p.1, .int .i64 p.2.1, .int .i64 p.2.2.1, .int .i64 p.2.2.2], .int .i64 way] w fun e w' => e = .returned (.tuple #[.int .i64 (alM way a p), .int .i64 (acM way a p)]) ∧ Kept w w' := by
  have HD := dx_bd ha hp
  obtain ⟨ax, ay, aw, ah⟩ := a
  obtain ⟨px, py, pw, ph⟩ := p
  obtain ⟨⟨a1, a2⟩, ⟨a3, a4⟩, ⟨a5, a6⟩, a7, a8⟩ := ha
  obtain ⟨⟨p1, p2⟩, ⟨p3, p4⟩, ⟨p5, p6⟩, p7, p8⟩ := hp
  dsimp only at *
  have HX : Hid (dxM (ax, ay, aw, ah) (px, py, pw, ph) = 2 * px + pw - 2 * ax - aw) := show dxM (ax, ay, aw, ah) (px, py, pw, ph) = 2 * px + pw - 2 * ax - aw from rfl
  have HY : Hid (dyM (ax, ay, aw, ah) (px, py, pw, ph) = 2 * py + ph - 2 * ay - ah) := show dyM (ax, ay, aw, ah) (px, py, pw, ph) = 2 * py + ph - 2 * ay - ah from rfl
  have HXX : Hid (alM way (ax, ay, aw, ah) (px, py, pw, ph) = _) := show alM way (ax, ay, aw, ah) (px, py, pw, ph) = alM way (ax, ay, aw, ah) (px, py, pw, ph) from rfl
  obtain rfl | rfl | rfl | rfl : way = 0 ∨ way = 1 ∨ way = 2 ∨ way = 3 := by omega
  all_goals
    clear HD
    go_enter Try.func46, Try.ntmps46
    go_wp2
    go_ret2
    exact ⟨rfl, ((But.refl _ _ _).alloc _).alloc _⟩

end Go.Proofs.Ytaofilinejanjaa
