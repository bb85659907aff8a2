/-
  The place of a name by halves.
-/
import Derived.Test.YtklgjhemcofhhaaDoorBinP22
namespace Go.Proofs.YtklgjhemcofhhaaDoor
open Go.ChangeShapes Go.WideShapes Go.ChangeAt Go.RowKit

set_option maxRecDepth 100000
set_option linter.unusedVariables false
set_option linter.unusedSimpArgs false

set_option maxHeartbeats 1000000 in
theorem icmp (a b : ByteArray) (w : World) :
    Calls Tryd.prog 93 #[.string a, .string b] w fun e w' => e = .returned (.int .i64 (Lib.compareBytes a.data.toList b.data.toList)) ∧ w' = w := by
  go_enter Tryd.func93, Tryd.ntmps93
  go_wp2
  rw [run_callFunc_extern Tryd.func95 (by kernel_rfl) (by kernel_rfl) (by kernel_rfl) (e := Extern.BytealgCompare.compare) (by kernel_rfl), Lib.run_compareString]
  simp only [Result.andThen]
  rw [Oper.upon_value]
  go_wp2
  go_ret
  exact ⟨rfl, rfl⟩
theorem istrcmp (a b : ByteArray) (w : World) :
    Calls Tryd.prog 86 #[.string a, .string b] w fun e w' => e = .returned (.int .i64 (Lib.compareBytes a.toList b.toList)) ∧ w' = w := by
  rw [ByteArray.toList_eq, ByteArray.toList_eq]
  go_enter Tryd.func86, Tryd.ntmps86
  go_wp2_with (go_at_call 93; refine (icmp _ _ _).mono ?_; rintro e w' ⟨rfl, rfl⟩)
  go_ret
  exact ⟨rfl, rfl⟩
theorem iclo (y0 s : ByteArray) (y1 : Int) (y2 : ByteArray) (w : World) :
    Calls Tryd.prog 85 #[.agg #[.string y0, .int .i64 y1, .string y2], .string s] w fun e w' => e = .returned (.int .i64 (Lib.compareBytes y0.toList s.toList)) ∧ Kept w w' := by
  go_enter Tryd.func85, Tryd.ntmps85
  go_wp2_with (go_at_call 86; refine (istrcmp _ _ _).mono ?_; rintro e w' ⟨rfl, rfl⟩)
  go_ret
  exact ⟨rfl, (But.refl _ _ _).alloc _⟩

set_option maxHeartbeats 2000000 in
theorem bsearch (ps : List ValD) (f : ByteArray) (v : Value) (w : World) (hv : ValAt w v ps) (hn : ps.length ≤ 1048576) (hc : IsC ps f (posL f ps)) :
    Calls Tryd.prog 84 #[v, .string f, .func (.func 85) #[] #[]] w fun e w' => e = .returned (.tuple #[.int .i64 (posL f ps : Nat), .bool (foundB f ps)]) ∧ Kept w w' := by
  obtain ⟨ao, cap, hsl⟩ := row_nil hv
  subst hsl
  obtain ⟨B, hB⟩ : ∃ B, foundB f ps = B := ⟨_, rfl⟩
  have HB1 : Hid (∀ r, ps[posL f ps]? = some r → B = (r.1.toList == f.toList)) := fun r hr => by rw [← hB]; exact found_eq hr
  have HB2 : Hid (ps[posL f ps]? = none → B = false) := fun hr => by rw [← hB]; exact found_no hr
  rw [hB]
  clear hB
  generalize posL f ps = c at *
  have hcl := hc.1
  have HC : Hid (∀ j r, ps[j]? = some r → (j < c ↔ Op.bytesLess r.1.toList f.toList = true)) := hc.2
  clear hc
  go_enter Tryd.func84, Tryd.ntmps84
  go_wp2
  go_loopw [9, 10] (fun s9 s10 wr => ∃ lo hi : Nat, s9 = .int .i64 lo ∧ s10 = .int .i64 hi ∧ lo ≤ c ∧ c ≤ hi ∧ hi ≤ ps.length ∧ Kept w wr) (fun a b _ => (intOf b).toNat - (intOf a).toNat)
  case atStart => exact ⟨0, ps.length, rfl, rfl, Nat.zero_le _, hcl, Nat.le_refl _, But.refl _ _ _⟩
  case round =>
    obtain ⟨lo, hi, rfl, rfl, h1, h2, h3, hkp⟩ := hrel
    by_cases hlt : lo < hi
    · obtain ⟨p, hp⟩ : ∃ p, ps[(lo + hi) / 2]? = some p := ⟨_, List.getElem?_eq_getElem (by omega)⟩
      obtain ⟨bb, o, cap', e, q0, q1, q2⟩ := val_get (hv.kept hkp) hp
      cases e
      have hcm := HC.out _ _ hp
      have HM : Hid ((lo + hi) / 2 < c ↔ Op.bytesLess p.1.toList f.toList = true) := hcm
      have HK : Hid (Kept w wr) := hkp
      obtain ⟨y0, y1, y2⟩ := p
      dsimp only at q0 q1 q2 HM
      have HL : Hid (decide (Lib.compareBytes y0.toList f.toList < 0) = Op.bytesLess y0.toList f.toList) := cmp_lt _ _
      clear hp hkp hcm
      have HCL := iclo y0 f y1 y2 wr
      generalize Lib.compareBytes y0.toList f.toList = CB at *
      have HCL : Hid (Calls Tryd.prog 85 #[.agg #[.string y0, .int .i64 y1, .string y2], .string f] wr fun e w' => e = .returned (.int .i64 CB) ∧ Kept wr w') := HCL
      cases hg : Op.bytesLess y0.toList f.toList with
      | true =>
        have d1 : decide (CB < 0) = true := by rw [HL.out, hg]
        have hm := HM.out.2 hg
        go_wp2_with (go_at_call 85; refine HCL.out.mono ?_; rintro e w' ⟨rfl, k1⟩)
        exact ⟨⟨(lo + hi) / 2 + 1, hi, by go_num, rfl, by omega, by omega, h3, HK.out.trans k1⟩, by simp [intOf]; omega⟩
      | false =>
        have d1 : decide (CB < 0) = false := by rw [HL.out, hg]
        have hm : ¬ (lo + hi) / 2 < c := fun h => by have := HM.out.1 h; rw [hg] at this; cases this
        go_wp2_with (go_at_call 85; refine HCL.out.mono ?_; rintro e w' ⟨rfl, k1⟩)
        exact ⟨⟨lo, (lo + hi) / 2, rfl, by go_num, by omega, by omega, by omega, HK.out.trans k1⟩, by simp [intOf]; omega⟩
    · obtain rfl : lo = c := by omega
      obtain rfl : hi = lo := by omega
      by_cases hl : hi < ps.length
      · obtain ⟨p, hp⟩ : ∃ p, ps[hi]? = some p := ⟨_, List.getElem?_eq_getElem hl⟩
        obtain ⟨bb, o, cap', e, q0, q1, q2⟩ := val_get (hv.kept hkp) hp
        cases e
        have HK : Hid (Kept w wr) := hkp
        have hb := HB1.out p hp
        obtain ⟨y0, y1, y2⟩ := p
        dsimp only at q0 q1 q2 hb
        have HZ : Hid (B = (Lib.compareBytes y0.toList f.toList == 0)) := by show _ = _; rw [hb, cmp_zero]
        clear hp hkp hb
        have HCL := iclo y0 f y1 y2 wr
        generalize Lib.compareBytes y0.toList f.toList = CB at *
        have HCL : Hid (Calls Tryd.prog 85 #[.agg #[.string y0, .int .i64 y1, .string y2], .string f] wr fun e w' => e = .returned (.int .i64 CB) ∧ Kept wr w') := HCL
        go_wp2_with (go_at_call 85; refine HCL.out.mono ?_; rintro e w' ⟨rfl, k1⟩)
        go_ret2
        exact ⟨by rw [HZ.out]; rfl, HK.out.trans k1⟩
      · have hb := HB2.out (List.getElem?_eq_none (by omega))
        subst hb
        go_wp2
        go_ret2
        exact ⟨rfl, hkp⟩
theorem ifind (ps : List ValD) (f : ByteArray) (v : Value) (w : World) (hv : ValAt w v ps) (hn : ps.length ≤ 1048576) (hc : UpR ps) :
    Calls Tryd.prog 67 #[v, .string f] w fun e w' => e = .returned (.tuple #[.int .i64 (posL f ps : Nat), .bool (foundB f ps)]) ∧ Kept w w' := by
  have HB : Hid (Calls Tryd.prog 84 #[v, .string f, .func (.func 85) #[] #[]] w fun e w' => e = .returned (.tuple #[.int .i64 (posL f ps : Nat), .bool (foundB f ps)]) ∧ Kept w w') := bsearch ps f v w hv hn (pos_is hc f)
  obtain ⟨ao, cap, hsl⟩ := row_nil hv
  subst hsl
  generalize foundB f ps = B at *
  generalize posL f ps = c at *
  go_enter Tryd.func67, Tryd.ntmps67
  go_wp2_with (go_at_call 84; refine HB.out.mono ?_; rintro e w' ⟨rfl, k1⟩)
  go_ret2
  exact ⟨rfl, k1⟩

end Go.Proofs.YtklgjhemcofhhaaDoor
