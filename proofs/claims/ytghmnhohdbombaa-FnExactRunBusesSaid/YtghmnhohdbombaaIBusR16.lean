/-
  Buses run, whatever they are: the program.
-/
import Derived.Test.YtghmnhohdbombaaIBus16
namespace Go.Proofs.Ytghmnhohdbombaa
open Go.ChangeShapes Go.WideShapes Go.ChangeAt Go.RowKit Ieee

set_option maxRecDepth 100000
set_option linter.unusedVariables false
def BusRes (l : List BusD) (ins : List Nat) (R : List Nat × Nat × Bool) : Prop := (goodBs l ∧ ins.length = l.length ∧ goodR ins = true → R = busR l ins) ∧ (¬(goodBs l ∧ ins.length = l.length ∧ goodR ins = true) → R = ([], 0, false))

set_option maxHeartbeats 4000000 in
theorem ibusesR (l : List BusD) (ins : List Nat) (R : List Nat × Nat × Bool) (hR : BusRes l ins R) (v x : Value) (w : World) (hv : BusAt w v l) (hi : FltAt w x ins) (hx : ∀ p ∈ l, BusOk p) (hw : WideL ins) (hl : l.length ≤ 1048576) (hn : ins.length ≤ 1048576) :
    Calls Try.prog 34 #[v, x] w (BusAns R w) := by
  by_cases hall : goodBs l ∧ ins.length = l.length ∧ goodR ins = true
  · rw [hR.1 hall]
    exact ibuses l ins v x w hv hi hx hw hall.1 hall.2.1 hall.2.2
  have HRES : Hid (BusRes l ins R) := hR
  have HNO : Hid (¬(goodBs l ∧ ins.length = l.length ∧ goodR ins = true)) := hall
  clear hR hall
  obtain ⟨ao, cap, hsl⟩ := row_nil hv
  subst hsl
  obtain ⟨ao2, cap2, hsl⟩ := row_nil hi
  subst hsl
  have HV : Hid (BusAt w (.slice ao l.length cap) l) := hv
  have HI : Hid (FltAt w (.slice ao2 ins.length cap2) ins) := hi
  clear hv hi
  go_enter Try.func34, Try.ntmps34
  repeat (first | go_values | go_skip | go_guarded | go_step | go_upon)
  go_at_call 63
  refine (igoodBs l _ _ HV.out hx hl).mono ?_
  rintro e u1 ⟨b, rfl, hb, k1⟩
  have HK1 : Hid (Kept w u1) := k1
  have HB : Hid (b = true ↔ goodBs l) := hb
  clear k1 hb
  cases b with
  | false =>
    dsimp only
    repeat (first | go_values | go_skip | go_guarded | go_step | go_upon)
    go_returns
    rw [HRES.out.2 (HNO.out)]
    exact ⟨.slice none 0 0, rfl, FltO.nil, HK1.out⟩
  | true =>
    by_cases he : ins.length = l.length
    · have hdn : ((ins.length : Int) != (l.length : Int)) = false := by simp [he]
      have HE : Hid (ins.length = l.length) := he
      clear he
      dsimp only
      repeat (first | go_values | go_skip | go_guarded | go_step | go_upon)
      go_at_call 46
      refine (igoodR ins _ _ (HI.out.kept HK1.out) hw hn).mono ?_
      rintro e u2 ⟨rfl, k2⟩
      have hgr : goodR ins = false := by
        cases h : goodR ins with
        | false => rfl
        | true => exact absurd ⟨HB.out.1 rfl, HE.out, h⟩ HNO.out
      rw [hgr]
      dsimp only
      repeat (first | go_values | go_skip | go_guarded | go_step | go_upon)
      go_returns
      rw [HRES.out.2 (HNO.out)]
      exact ⟨.slice none 0 0, rfl, FltO.nil, HK1.out.trans k2⟩
    · have hdn : ((ins.length : Int) != (l.length : Int)) = true := by simp; omega
      dsimp only
      repeat (first | go_values | go_skip | go_guarded | go_step | go_upon)
      go_returns
      rw [HRES.out.2 (HNO.out)]
      exact ⟨.slice none 0 0, rfl, FltO.nil, HK1.out⟩

end Go.Proofs.Ytghmnhohdbombaa
