/-
  The first section of a name: the specification and the program.
-/
import Derived.Test.YtapfafibhjpkdaaDoorSec15
import Derived.Test.YtapfafibhjpkdaaDoorLeaf15
namespace Go.Proofs.YtapfafibhjpkdaaDoor
open Go.ChangeShapes Go.WideShapes Go.ChangeAt Go.RowKit

set_option maxRecDepth 100000
set_option linter.unusedVariables false

def zsec : Value := .agg #[.string ⟨#[]⟩, .int .i64 0, .slice none 0 0, .string ⟨#[]⟩]
set_option maxHeartbeats 4000000 in
theorem ssec (l : List SectionD) (nm : ByteArray) (v : Value) (w : World) (hv : SecsAt w v l) (hn : l.length ≤ 1048576) :
    Calls Tryd.prog 19 #[v, .string nm] w fun e w' => e = .returned (.int .i64 (ixI (fstS l nm))) ∧ Kept w w' := by
  obtain ⟨ao, cap, hsl⟩ := hv.form
  subst hsl
  go_enter Tryd.func19, Tryd.ntmps19
  go_wp2
  go_loopw [9] (fun i wr => ∃ (k : Nat), k ≤ l.length ∧ i = .int .i64 k ∧ Hid (Before l nm k) ∧ Kept w wr) (fun i _ => l.length - (intOf i).toNat)
  case atStart => exact ⟨0, by omega, rfl, fun j d hj => by omega, But.refl _ _ _⟩
  case round =>
    obtain ⟨k, hk, rfl, HB, hkp⟩ := hrel
    by_cases hlt : k < l.length
    · obtain ⟨d, hd⟩ : ∃ p, l[k]? = some p := ⟨_, List.getElem?_eq_getElem hlt⟩
      obtain ⟨b, o, cap', s, ee, c0, c1, c2, c3, hka⟩ := (hv.kept hkp).get hd
      cases ee
      have HP : Hid (l[k]? = some d) := hd
      have HK : Hid (Kept w wr) := hkp
      obtain ⟨d0, d1, d2, d3⟩ := d
      dsimp only at c0 c1 c2 c3 hka
      obtain ⟨a3, p3, hsl⟩ := row_nil hka
      subst hsl
      clear hd hka hkp hv
      cases q : (d0.toList == nm.toList) with
      | true =>
        repeat (first | go_values | go_skip | go_guarded | go_step | go_upon)
        go_ret
        exact ⟨ret_intG (by rw [fst_some HB.out HP.out q]; rfl), (HK.out.alloc _)⟩
      | false =>
        repeat (first | go_values | go_skip | go_guarded | go_step | go_upon)
        exact ⟨⟨k + 1, hlt, by go_num, before_next HB.out HP.out q, HK.out.alloc _⟩, by simp [intOf]; omega⟩
    · have hke : k = l.length := by omega
      subst hke
      have HK : Hid (Kept w wr) := hkp
      clear hkp
      go_wp2
      go_ret
      exact ⟨ret_intG (by rw [fst_none HB.out]; rfl), HK.out⟩
/-- What findSection gives. -/
def FindE (w : World) (l : List SectionD) (nm : ByteArray) (e : Ending) : Prop := match fstS l nm with
  | some k => ∃ d s, l[k]? = some d ∧ NumAt w s d.2.2.1 ∧ e = .returned (.tuple #[.agg #[.string d.1, .int .i64 d.2.1, s, .string d.2.2.2], .bool true])
  | none => e = .returned (.tuple #[zsec, .bool false])
set_option maxHeartbeats 4000000 in
theorem ifind (l : List SectionD) (nm : ByteArray) (v : Value) (w : World) (hv : SecsAt w v l) (hn : l.length ≤ 1048576) :
    Calls Tryd.prog 33 #[v, .string nm] w fun e w' => FindE w l nm e ∧ Kept w w' := by
  obtain ⟨ao, cap, hsl⟩ := hv.form
  subst hsl
  go_enter Tryd.func33, Tryd.ntmps33
  go_wp2
  go_loopw [10] (fun i wr => ∃ (k : Nat), k ≤ l.length ∧ i = .int .i64 k ∧ Hid (Before l nm k) ∧ Loc wr w.heap.size [.string ⟨#[]⟩, .int .i64 0, .slice none 0 0, .string ⟨#[]⟩] ∧ Kept w wr) (fun i _ => l.length - (intOf i).toNat)
  case atStart => exact ⟨0, by omega, rfl, fun j d hj => by omega, Loc.new w _ _, (But.refl _ _ _).alloc _⟩
  case round =>
    obtain ⟨k, hk, rfl, HB, Lz, hkp⟩ := hrel
    have hsz := Lz.lt
    by_cases hlt : k < l.length
    · obtain ⟨d, hd⟩ : ∃ p, l[k]? = some p := ⟨_, List.getElem?_eq_getElem hlt⟩
      obtain ⟨b, o, cap', s, ee, c0, c1, c2, c3, hka⟩ := (hv.kept hkp).get hd
      cases ee
      have HP : Hid (l[k]? = some d) := hd
      have HK : Hid (Kept w wr) := hkp
      have HA : Hid (∃ s', NumAt w s' d.2.2.1 ∧ s' = s) := by
        obtain ⟨b', o', cap'', s', ee, x0, x1, x2, x3, hka'⟩ := hv.get hd
        cases ee
        have := Kept.cell hkp x2
        rw [c2] at this
        cases this
        exact ⟨_, hka', rfl⟩
      obtain ⟨d0, d1, d2, d3⟩ := d
      dsimp only at c0 c1 c2 c3 hka
      obtain ⟨a3, p3, hsl⟩ := row_nil hka
      subst hsl
      have HL : Hid (Loc wr w.heap.size [.string ⟨#[]⟩, .int .i64 0, .slice none 0 0, .string ⟨#[]⟩]) := Lz
      clear hd hka hkp hv Lz
      cases q : (d0.toList == nm.toList) with
      | true =>
        have U0 := HL.out
        have u0 := U0.cell 0 rfl
        have uf0 := U0.frozen 0
        have U1 := U0.set 0 (.string d0)
        simp only [List.set_cons_zero] at U1
        have u1 := U1.cell 1 rfl
        have uf1 := U1.frozen 1
        have U2 := U1.set 1 (.int .i64 d1)
        simp only [List.set_cons_zero, List.set_cons_succ] at U2
        have u2 := U2.cell 2 rfl
        have uf2 := U2.frozen 2
        have U3 := U2.set 2 (.slice a3 d2.length p3)
        simp only [List.set_cons_zero, List.set_cons_succ] at U3
        have u3 := U3.cell 3 rfl
        have uf3 := U3.frozen 3
        have U4 := U3.set 3 (.string d3)
        simp only [List.set_cons_zero, List.set_cons_succ] at U4
        have v0 := U4.cell 0 rfl
        have v1 := U4.cell 1 rfl
        have v2 := U4.cell 2 rfl
        have v3 := U4.cell 3 rfl
        clear U0 U1 U2 U3 U4
        repeat (first | go_values | go_skip | go_guarded | go_step | go_upon)
        refine bodyPost_ret (v := .tuple #[.agg #[.string d0, .int .i64 d1, .slice a3 d2.length p3, .string d3], .bool true]) (by simp [results, Tryd.results33, go_sem, *]) rfl ?_
        refine ⟨?_, ?_⟩
        · unfold FindE
          rw [fst_some HB.out HP.out q]
          obtain ⟨s', h1, h2⟩ := HA.out
          subst h2
          exact ⟨_, _, HP.out, h1, rfl⟩
        · exact ((((HK.out.setNew (by simp) _).setNew (by simp) _).setNew (by simp) _).setNew (by simp) _).alloc _
      | false =>
        repeat (first | go_values | go_skip | go_guarded | go_step | go_upon)
        exact ⟨⟨k + 1, hlt, by go_num, before_next HB.out HP.out q, HL.out.alloc _, HK.out.alloc _⟩, by simp [intOf]; omega⟩
    · have hke : k = l.length := by omega
      subst hke
      have HK : Hid (Kept w wr) := hkp
      clear hkp
      have U0 := Lz
      have u0 := U0.cell 0 rfl
      have uf0 := U0.frozen 0
      have U1 := U0.set 0 (.string ⟨#[]⟩)
      simp only [List.set_cons_zero] at U1
      have u1 := U1.cell 1 rfl
      have uf1 := U1.frozen 1
      have U2 := U1.set 1 (.int .i64 0)
      simp only [List.set_cons_zero, List.set_cons_succ] at U2
      have u2 := U2.cell 2 rfl
      have uf2 := U2.frozen 2
      have U3 := U2.set 2 (.slice none 0 0)
      simp only [List.set_cons_zero, List.set_cons_succ] at U3
      have u3 := U3.cell 3 rfl
      have uf3 := U3.frozen 3
      have U4 := U3.set 3 (.string ⟨#[]⟩)
      simp only [List.set_cons_zero, List.set_cons_succ] at U4
      have v0 := U4.cell 0 rfl
      have v1 := U4.cell 1 rfl
      have v2 := U4.cell 2 rfl
      have v3 := U4.cell 3 rfl
      clear U0 U1 U2 U3 U4 Lz
      repeat (first | go_values | go_skip | go_guarded | go_step | go_upon)
      refine bodyPost_ret (v := .tuple #[.agg #[.string ⟨#[]⟩, .int .i64 0, .slice none 0 0, .string ⟨#[]⟩], .bool false]) (by simp [results, Tryd.results33, go_sem, *]) rfl ?_
      refine ⟨?_, ?_⟩
      · unfold FindE
        rw [fst_none HB.out]
        rfl
      · exact (((HK.out.setNew (by simp) _).setNew (by simp) _).setNew (by simp) _).setNew (by simp) _
theorem iis (l : List SectionD) (nm : ByteArray) (v : Value) (w : World) (hv : SecsAt w v l) (hn : l.length ≤ 1048576) :
    Calls Tryd.prog 35 #[v, .string nm] w fun e w' => e = .returned (.bool (hasB l nm)) ∧ Kept w w' := by
  have HF := ifind l nm v w hv hn
  unfold FindE at HF
  unfold hasB
  cases hq : fstS l nm with
  | some k =>
    rw [hq] at HF
    obtain ⟨ao, cap, hsl⟩ := hv.form
    subst hsl
    go_enter Tryd.func35, Tryd.ntmps35
    repeat (first | go_values | go_skip | go_guarded | go_step | go_upon)
    go_at_call 33
    refine HF.mono ?_
    rintro e w1 ⟨⟨d, s, h1, h2, rfl⟩, k1⟩
    obtain ⟨a3, p3, hsl⟩ := row_nil h2
    subst hsl
    dsimp only
    repeat (first | go_values | go_skip | go_guarded | go_step | go_upon)
    go_ret
    exact ⟨rfl, k1.alloc _⟩
  | none =>
    rw [hq] at HF
    obtain ⟨ao, cap, hsl⟩ := hv.form
    subst hsl
    unfold zsec at HF
    go_enter Tryd.func35, Tryd.ntmps35
    repeat (first | go_values | go_skip | go_guarded | go_step | go_upon)
    go_at_call 33
    refine HF.mono ?_
    rintro e w1 ⟨rfl, k1⟩
    dsimp only
    repeat (first | go_values | go_skip | go_guarded | go_step | go_upon)
    go_ret
    exact ⟨rfl, k1.alloc _⟩

end Go.Proofs.YtapfafibhjpkdaaDoor
