/-
  Good music in the specification.
-/
import Derived.Test.YtapfafibhjpkdaaDoorMusic
import Derived.Test.YtapfafibhjpkdaaDoorSecSs15
namespace Go.Proofs.YtapfafibhjpkdaaDoor
open Go.ChangeShapes Go.WideShapes Go.ChangeAt Go.RowKit

set_option maxRecDepth 100000
set_option linter.unusedVariables false

def emptyB (s : ByteArray) : Bool := s.toList.isEmpty
def MusicP (l : List SectionD) (m : MusicD) : Prop := SecsP l ∧ ∃ k d, fstS l m.1 = some k ∧ l[k]? = some d ∧ (0 ≤ m.2.1 ∧ m.2.1 < d.2.1) ∧ (emptyB m.2.2 = true ∨ hasB l m.2.2 = true)
theorem emptyL (s : ByteArray) : s.toList.isEmpty = emptyB s := rfl
theorem mus_iff {l : List SectionD} {m0 m2 : ByteArray} {m1 : Int} {k : Nat} {d : SectionD} (h1 : SecsP l) (h2 : fstS l m0 = some k) (h3 : l[k]? = some d) : MusicP l (m0, m1, m2) ↔ (0 ≤ m1 ∧ m1 < d.2.1) ∧ (emptyB m2 = true ∨ hasB l m2 = true) := by
  constructor
  · rintro ⟨_, k', d', h4, h5, h6⟩
    dsimp only at h4 h6
    rw [h2] at h4
    cases h4
    rw [h3] at h5
    cases h5
    exact h6
  · intro h
    exact ⟨h1, k, d, h2, h3, h⟩

set_option maxHeartbeats 8000000 in
theorem smusic (l : List SectionD) (ao : Option Addr) (cap : Nat) (m0 : ByteArray) (m1 : Int) (m2 : ByteArray) (w : World) (hv : SecsAt w (.slice ao l.length cap) l) (hcap : l.length ≤ cap ∧ cap ≤ 9223372036854775807) (hn : secsCost l ≤ 1048576) :
    Calls Tryd.prog 17 #[.slice ao l.length cap, .agg #[.string m0, .int .i64 m1, .string m2]] w fun e w' => e = .returned (.bool (dec (MusicP l (m0, m1, m2)))) ∧ Kept w w' := by
  have K0 : Kept w (w.alloc (.cells #[.string m0, .int .i64 m1, .string m2] 27)) := (But.refl _ _ _).alloc _
  have hln : l.length ≤ 1048576 := by unfold secsCost at hn; omega
  have NO : Hid (¬ MusicP l (m0, m1, m2) → dec (MusicP l (m0, m1, m2)) = false) := dec_no
  have YES : Hid (MusicP l (m0, m1, m2) → dec (MusicP l (m0, m1, m2)) = true) := dec_yes
  generalize dec (MusicP l (m0, m1, m2)) = R at *
  cases q1 : dec (SecsP l) with
  | false =>
    have hR := NO.out (fun h => of_dec_no q1 h.1)
    subst hR
    go_enter Tryd.func17, Tryd.ntmps17
    repeat (first | go_values | go_skip | go_guarded | go_step | go_upon)
    go_at_call 31
    refine (ssecs l ao cap _ (hv.kept K0) hcap hn).mono ?_
    rintro e w1 ⟨rfl, k1⟩
    rw [q1]
    dsimp only
    repeat (first | go_values | go_skip | go_guarded | go_step | go_upon)
    go_ret
    exact ⟨rfl, K0.trans k1⟩
  | true =>
    have hS := of_dec q1
    have HFX : Hid (∀ W, SecsAt W (.slice ao l.length cap) l → Calls Tryd.prog 19 #[.slice ao l.length cap, .string m0] W fun e w' => e = .returned (.int .i64 (ixI (fstS l m0))) ∧ Kept W w') := fun W h => ssec l m0 _ W h hln
    have HTX : Hid (∀ W, SecsAt W (.slice ao l.length cap) l → Calls Tryd.prog 19 #[.slice ao l.length cap, .string m2] W fun e w' => e = .returned (.int .i64 (ixI (fstS l m2))) ∧ Kept W w') := fun W h => ssec l m2 _ W h hln
    obtain ⟨Y, hY⟩ : ∃ Y, ixI (fstS l m2) = Y := ⟨_, rfl⟩
    have eY : decide (0 ≤ Y) = hasB l m2 := by rw [← hY]; exact ix_pos _
    rw [hY] at HTX
    clear hY
    have hE := emptyL m2
    cases hq : fstS l m0 with
    | none =>
      rw [hq] at HFX
      dsimp only [ixI] at HFX
      have hR := NO.out (fun h => by obtain ⟨_, k, d, h4, _⟩ := h; dsimp only at h4; rw [hq] at h4; cases h4)
      subst hR
      go_enter Tryd.func17, Tryd.ntmps17
      repeat (first | go_values | go_skip | go_guarded | go_step | go_upon)
      go_at_call 31
      refine (ssecs l ao cap _ (hv.kept K0) hcap hn).mono ?_
      rintro e w1 ⟨rfl, k1⟩
      rw [q1]
      have K1 := K0.trans k1
      have L0 := (Loc.new w [.string m0, .int .i64 m1, .string m2] 27).kept k1
      have f0 := L0.cell 0 rfl
      dsimp only
      repeat (first | go_values | go_skip | go_guarded | go_step | go_upon)
      go_at_call 19
      refine (HFX.out _ (hv.kept K1)).mono ?_
      rintro e w2 ⟨rfl, k2⟩
      have K2 := K1.trans k2
      have L2 := L0.kept k2
      have g1 := L2.cell 1 rfl
      have g2 := L2.cell 2 rfl
      have hlt := L2.lt
      have HK2 : Hid (Kept w w2) := K2
      have hv2 := hv.kept K2
      dsimp only
      clear f0 K0 k1 K1 L0 k2 K2 L2 hv
      repeat (first | go_values | go_skip | go_guarded | go_step | go_upon)
      refine wp_region_kept (by kernel_rfl) (by kernel_rfl) ?_
      have hcc := @KW.cell_eq
      repeat (go_big_quiet_step (first | fail))
      refine wpQuiet_nil ?_
      rintro w5 ⟨⟨w8, k5⟩, h9⟩
      change w5 = w8 at h9
      subst h9
      clear hcc
      repeat (first | go_values | go_skip | go_guarded | go_step | go_upon)
      go_ret
      exact ⟨rfl, HK2.out.trans k5⟩
    | some k =>
      obtain ⟨d, hd, _⟩ := fst_get hq
      rw [hq] at HFX
      dsimp only [ixI] at HFX
      have hiff : Hid (MusicP l (m0, m1, m2) ↔ (0 ≤ m1 ∧ m1 < d.2.1) ∧ (emptyB m2 = true ∨ hasB l m2 = true)) := mus_iff hS hq hd
      have hkl : k < l.length := (List.getElem?_eq_some_iff.1 hd).1
      have hb1 := ((hS.2 k hkl) d hd).1.2.1
      go_enter Tryd.func17, Tryd.ntmps17
      repeat (first | go_values | go_skip | go_guarded | go_step | go_upon)
      go_at_call 31
      refine (ssecs l ao cap _ (hv.kept K0) hcap hn).mono ?_
      rintro e w1 ⟨rfl, k1⟩
      rw [q1]
      have K1 := K0.trans k1
      have L0 := (Loc.new w [.string m0, .int .i64 m1, .string m2] 27).kept k1
      have f0 := L0.cell 0 rfl
      dsimp only
      repeat (first | go_values | go_skip | go_guarded | go_step | go_upon)
      go_at_call 19
      refine (HFX.out _ (hv.kept K1)).mono ?_
      rintro e w2 ⟨rfl, k2⟩
      have K2 := K1.trans k2
      have L2 := L0.kept k2
      have g1 := L2.cell 1 rfl
      have g2 := L2.cell 2 rfl
      have hlt := L2.lt
      have HK2 : Hid (Kept w w2) := K2
      have hv2 := hv.kept K2
      dsimp only
      clear f0 K0 k1 K1 L0 k2 K2 L2 hv
      obtain ⟨b, o, cap', s, ee, c0, c1, c2, c3, hka⟩ := hv2.get hd
      cases ee
      obtain ⟨d0, d1, d2, d3⟩ := d
      dsimp only at c0 c1 c2 c3 hb1
      have HIF : Hid (MusicP l (m0, m1, m2) ↔ (0 ≤ m1 ∧ m1 < d1) ∧ (emptyB m2 = true ∨ hasB l m2 = true)) := hiff
      have ex : IntKind.i64.wrap (d1 - 1) = d1 - 1 := IntWalk.i64_in _ (by omega)
      have z0 : (0 : Int) ≤ (k : Int) := by omega
      have z1 : (k : Int) < (l.length : Int) := by omega
      have hgw : b < w2.heap.size := World.block_lt_of_cell? _ _ c0
      have AA : Hid (∀ W, Kept w2 W → Calls Tryd.prog 19 #[.slice (some ⟨b, o, none⟩) l.length cap, .string m2] W fun e w' => e = .returned (.int .i64 Y) ∧ Kept W w') := fun W k => HTX.out W (hv2.kept k)
      clear hv2 hka c2 c3 hiff hd hq hS HFX HTX
      rcases (Decidable.em (0 ≤ m1 ∧ m1 ≤ d1 - 1)).symm with h4 | h4
      · have di : decide (0 ≤ m1 ∧ m1 ≤ d1 - 1) = false := decide_eq_false h4
        have hR := NO.out (fun h => h4 (by have := (HIF.out.1 h).1; omega))
        subst hR
        repeat (first | go_values | go_skip | go_guarded | go_step | go_upon)
        refine wp_region_kept (by kernel_rfl) (by kernel_rfl) ?_
        have hcc := @KW.cell_eq
        repeat (go_big_quiet_step (first | (go_at_call 18; exact kw_same (calls_bool di (sInG _ _ _ _)))))
        refine wpQuiet_nil ?_
        rintro w5 ⟨⟨w8, k5⟩, h9⟩
        change w5 = w8 at h9
        subst h9
        clear hcc
        repeat (first | go_values | go_skip | go_guarded | go_step | go_upon)
        go_ret
        exact ⟨rfl, HK2.out.trans k5⟩
      have di : decide (0 ≤ m1 ∧ m1 ≤ d1 - 1) = true := decide_eq_true h4
      cases q5 : emptyB m2 with
      | true =>
        rw [q5] at hE
        have hR := YES.out (HIF.out.2 ⟨by omega, .inl q5⟩)
        subst hR
        repeat (first | go_values | go_skip | go_guarded | go_step | go_upon)
        refine wp_region_kept (by kernel_rfl) (by kernel_rfl) ?_
        have hcc := @KW.cell_eq
        repeat (go_big_quiet_step (first | (go_at_call 18; exact kw_same (calls_bool di (sInG _ _ _ _)))))
        refine wpQuiet_nil ?_
        rintro w5 ⟨⟨w8, k5⟩, h9⟩
        change w5 = w8 at h9
        subst h9
        clear hcc
        repeat (first | go_values | go_skip | go_guarded | go_step | go_upon)
        go_ret
        exact ⟨rfl, HK2.out.trans k5⟩
      | false =>
        rw [q5] at hE
        cases q6 : hasB l m2 with
        | true =>
          rw [q6] at eY
          have hR := YES.out (HIF.out.2 ⟨by omega, .inr q6⟩)
          subst hR
          repeat (first | go_values | go_skip | go_guarded | go_step | go_upon)
          refine wp_region_kept (by kernel_rfl) (by kernel_rfl) ?_
          have hcc := @KW.cell_eq
          repeat (go_big_quiet_step (first | (go_at_call 18; exact kw_same (calls_bool di (sInG _ _ _ _))) | (go_at_call 19; with_reducible exact kw_call (AA.out _ (KW.k _)))))
          refine wpQuiet_nil ?_
          rintro w5 ⟨⟨w8, k5⟩, h9⟩
          change w5 = w8 at h9
          subst h9
          clear hcc
          repeat (first | go_values | go_skip | go_guarded | go_step | go_upon)
          go_ret
          exact ⟨rfl, HK2.out.trans k5⟩
        | false =>
          rw [q6] at eY
          have hR := NO.out (fun h => by rcases (HIF.out.1 h).2 with h | h <;> simp [q5, q6] at h)
          subst hR
          repeat (first | go_values | go_skip | go_guarded | go_step | go_upon)
          refine wp_region_kept (by kernel_rfl) (by kernel_rfl) ?_
          have hcc := @KW.cell_eq
          repeat (go_big_quiet_step (first | (go_at_call 18; exact kw_same (calls_bool di (sInG _ _ _ _))) | (go_at_call 19; with_reducible exact kw_call (AA.out _ (KW.k _)))))
          refine wpQuiet_nil ?_
          rintro w5 ⟨⟨w8, k5⟩, h9⟩
          change w5 = w8 at h9
          subst h9
          clear hcc
          repeat (first | go_values | go_skip | go_guarded | go_step | go_upon)
          go_ret
          exact ⟨rfl, HK2.out.trans k5⟩

end Go.Proofs.YtapfafibhjpkdaaDoor
