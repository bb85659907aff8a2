/-
  The door from a face to another one, in the specification.
-/
import Derived.Test.YthohgehhoogpnaaHas8
namespace Go.Proofs.Ythohgehhoogpnaa
open Go.ChangeShapes Go.WideShapes Go.ChangeAt Go.RowKit

set_option maxRecDepth 100000
set_option linter.unusedVariables false
/-- There is a door from f to o at f's corner i, between p and q. -/
def DoorAt (f o : List NumD) (i : Nat) (p q : Int) : Prop := f[i]? = some p ∧ f[(i + 1) % f.length]? = some q ∧ ∃ e, EdgeAt o q p e
def DoorIs (f o : List NumD) (d : List NumD) (t : Bool) : Prop :=
  (t = false ∧ d = [] ∧ ∀ i p q, ¬ DoorAt f o i p q) ∨ (t = true ∧ ∃ i p q, DoorAt f o i p q ∧ d = [p, q] ∧ ∀ j p' q', j < i → ¬ DoorAt f o j p' q')

theorem num_two (w : World) (lo : Nat) (a d : Int) (hlo : lo ≤ w.heap.size) : NumO (w.alloc (.cells #[.int .i64 a, .int .i64 d] 3)) lo (w.heap.size + 1) (.slice (some ⟨w.heap.size, 0, none⟩) 2 2) [a, d] := by
  refine ⟨⟨rfl, .inr ⟨w.heap.size, 2, _, rfl, hlo, heap_alloc_new w _, Nat.le_refl _, by unfold maxLen; omega, rfl, rfl⟩⟩, fun g hg => ?_⟩
  simp [Value.ownBlock] at hg
  omega

set_option maxHeartbeats 8000000 in
theorem sdoor (g : GroundD) (pv fv : Value) (w : World) (hF : LLAt w fv g.2) (hg2 : g.2.length ≤ 20) (k1 k2 : Nat) (f o : List NumD) (hf : g.2[k1]? = some f) (ho : g.2[k2]? = some o) (hf8 : f.length ≤ 1048576) (ho8 : o.length ≤ 1048576) :
    Calls Try.prog 78 #[.agg #[pv, fv], .int .i64 (k1 : Int), .int .i64 (k2 : Int)] w fun e w' => (∃ v' d t, e = .returned (.tuple #[v', .bool t]) ∧ NumO w' w.heap.size w'.heap.size v' d ∧ DoorIs f o d t) ∧ Kept w w' := by
  have hk1 : k1 < g.2.length := (List.getElem?_eq_some_iff.1 hf).1
  have hk2 : k2 < g.2.length := (List.getElem?_eq_some_iff.1 ho).1
  obtain ⟨bf, of, cf, u, e, c0, hu⟩ := lL_get hF hf
  subst e
  obtain ⟨au, cu, hsu⟩ := row_nil hu
  subst hsu
  obtain ⟨bf', of', cf', u', e, c1, hu'⟩ := lL_get hF ho
  cases e
  obtain ⟨au', cu', hsu⟩ := row_nil hu'
  subst hsu
  have q0 := cell_ltG c0
  obtain ⟨W0, hW0⟩ : ∃ W, W = w.alloc (.cells #[pv, .slice (some ⟨bf, of, none⟩) g.2.length cf] 26) := ⟨_, rfl⟩
  have K0 : Kept w W0 := by rw [hW0]; exact (But.refl _ _ _).alloc _
  have g0 : W0.cell? ⟨w.heap.size, 1, none⟩ = some (.slice (some ⟨bf, of, none⟩) g.2.length cf) := by rw [hW0]; simp [go_sem]
  have HW0 : Hid (W0 = _) := hW0
  clear hf ho hW0
  go_enter Try.func78, Try.ntmps78
  go_wp2
  rw [← HW0.out]
  have hUA := hu.kept K0
  have hOA := hu'.kept K0
  have c1 := Kept.cell K0 c1
  clear HW0 c0
  go_loopw [19] (fun i wr => ∃ m : Nat, m ≤ f.length ∧ i = .int .i64 m ∧ (∀ j p' q', j < m → ¬ DoorAt f o j p' q') ∧ Kept W0 wr) (fun i _ => f.length - (intOf i).toNat)
  case atStart => exact ⟨0, by omega, rfl, fun j _ _ hj => by omega, But.refl _ _ _⟩
  case round =>
    obtain ⟨m, hm', rfl, hne, hkz⟩ := hrel
    rename World => WZ
    have HNE : Hid (∀ j p' q', j < m → ¬ DoorAt f o j p' q') := hne
    clear hne
    by_cases hmt : m < f.length
    · obtain ⟨a, ha⟩ : ∃ q, f[m]? = some q := ⟨_, List.getElem?_eq_getElem hmt⟩
      obtain ⟨J, hJ⟩ : ∃ J, (m + 1) % f.length = J := ⟨_, rfl⟩
      have hJl : J < f.length := by rw [← hJ]; exact Nat.mod_lt _ (by omega)
      obtain ⟨d, hd⟩ : ∃ q, f[J]? = some q := ⟨_, List.getElem?_eq_getElem hJl⟩
      obtain ⟨b4, o4, cap4, e, c4⟩ := num_get (hUA.kept hkz) ha
      cases e
      obtain ⟨b5, o5, cap5, e, c5⟩ := num_get (hUA.kept hkz) hd
      cases e
      have hmod := mod_next m f.length hmt
      rw [hJ] at hmod
      have z0 : ((f.length : Int) == 0) = false := beq_eq_false_iff_ne.2 (by omega)
      have g1 := Kept.cell hkz g0
      have e1 := Kept.cell hkz c1
      have HD : Hid (f[m]? = some a ∧ f[(m + 1) % f.length]? = some d) := ⟨ha, by rw [hJ]; exact hd⟩
      have HKZ : Hid (Kept W0 WZ) := hkz
      have HOZ : Hid _ := hOA.kept hkz
      clear ha hd hJ hkz
      go_wp2_with (go_at_call 55; refine (sedge o d a _ _ HOZ.out ho8).mono ?_; rintro e w9 ⟨⟨y, rfl, hy⟩, k9⟩; have HY : Hid (EdgeIs o d a y) := hy; clear hy)
      · have hy0 : 0 ≤ y := by assumption
        refine bodyPost_ret (v := .tuple #[.slice (some ⟨w9.heap.size, 0, none⟩) 2 2, .bool true]) (by simp [results, Try.results78, go_sem]) rfl ?_
        have KA : Kept w w9 := (K0.trans HKZ.out).trans k9
        refine ⟨⟨_, [a, d], true, rfl, ?_, .inr ⟨rfl, m, a, d, ⟨HD.out.1, HD.out.2, edge_some HY.out hy0⟩, rfl, HNE.out⟩⟩, KA.alloc _⟩
        have := num_two w9 w.heap.size a d KA.size
        exact this.low
      · have hy0 : y < 0 := by assumption
        refine ⟨⟨m + 1, hmt, by go_num, fun j p' q' hj h => ?_, HKZ.out.trans k9⟩, by simp [intOf]; omega⟩
        rcases Nat.lt_succ_iff_lt_or_eq.1 hj with hj | rfl
        · exact HNE.out j p' q' hj h
        · obtain ⟨h1, h2, e2, h3⟩ := h
          rw [HD.out.1] at h1
          rw [HD.out.2] at h2
          cases h1
          cases h2
          exact edge_none HY.out hy0 e2 h3
    · have hme : m = f.length := by omega
      subst hme
      go_wp2
      refine bodyPost_ret (v := .tuple #[.slice none 0 0, .bool false]) (by simp [results, Try.results78, go_sem]) rfl ?_
      refine ⟨⟨_, [], false, rfl, ⟨World.ownsRow_nil _ _ _ _, fun g hg => by simp [Value.ownBlock] at hg⟩, .inl ⟨rfl, rfl, fun i p q h => ?_⟩⟩, K0.trans hkz⟩
      exact HNE.out i p q (List.getElem?_eq_some_iff.1 h.1).1 h

end Go.Proofs.Ythohgehhoogpnaa
