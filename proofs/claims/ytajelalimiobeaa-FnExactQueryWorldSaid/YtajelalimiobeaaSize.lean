/-
  What the functions answer that weigh a world that comes in.
-/
import Derived.Test.YtajelalimiobeaaRows
import Derived.Test.YtajelalimiobeaaData
namespace Go.Proofs.Ytajelalimiobeaa
open Go.ChangeShapes Go.WideShapes Go.ChangeAt Go.RowKit
theorem szPart (s : ByteArray) (a b left : Int) (w : World) (hl : 0 ≤ left) (hm : left ≤ 1048576) (hs : s.size ≤ 9223372036854775807) :
    Calls Try.prog 138 #[.agg #[.string s, .int .i64 a, .int .i64 b], .int .i64 left] w fun e w' => e = .returned (.int .i64 (if (s.size : Int) ≤ left then left - s.size else -1)) ∧ w' = w.alloc (.cells #[.string s, .int .i64 a, .int .i64 b] 163) := by
  go_enter Try.func138, Try.ntmps138
  go_wp2
  · go_ret
    exact ⟨rfl, rfl⟩
  · go_ret
    exact ⟨rfl, rfl⟩

/-- What the weighing answers: what is left, or -1. -/
def leftOf (left : Int) (cost : Nat) : Int := if (cost : Int) ≤ left then left - cost else -1

theorem ret_int {a b : Int} (h : a = b) : Ending.returned (.int .i64 a) = .returned (.int .i64 b) := by rw [h]
theorem leftOf_no {left : Int} {cost : Nat} (h : left < (cost : Int)) : leftOf left cost = -1 := if_neg (by omega)
theorem leftOf_yes {left : Int} {cost : Nat} (h : (cost : Int) ≤ left) : leftOf left cost = left - cost := if_pos h

set_option maxHeartbeats 1000000 in
theorem szPartS (ps : List PD) (v : Value) (left : Int) (w : World) (hv : PartsAt w v ps) (hl : 0 ≤ left) (hm : left ≤ 1048576) (hn : ps.length ≤ 9223372036854775807) (hs : ∀ p ∈ ps, p.1.size ≤ 9223372036854775807) :
    Calls Try.prog 119 #[v, .int .i64 left] w fun e w' => e = .returned (.int .i64 (leftOf left (pcost ps))) ∧ Kept w w' := by
  obtain ⟨ao, cap, hsl⟩ := row_nil hv
  subst hsl
  by_cases hc : left < (ps.length : Int)
  · go_enter Try.func119, Try.ntmps119
    go_wp2
    go_ret
    exact ⟨ret_int (leftOf_no (by unfold pcost; omega)).symm, But.refl _ _ _⟩
  · have hc' : (ps.length : Int) ≤ left := by omega
    have hc2 : decide (left - (ps.length : Int) < 0) = false := by simp; omega
    go_enter Try.func119, Try.ntmps119
    go_wp2
    go_loopw [1, 5] (fun l i wr => ∃ (k : Nat) (c : Int), k ≤ ps.length ∧ i = .int .i64 k ∧ l = .int .i64 c ∧ c = left - ps.length - psum (ps.take k) ∧ 0 ≤ c ∧ Kept w wr) (fun l i _ => ps.length - (intOf i).toNat)
    case atStart => exact ⟨0, _, by omega, rfl, rfl, by simp [psum], by omega, But.refl _ _ _⟩
    case round =>
      obtain ⟨k, c, hk, rfl, rfl, hcv, h0, hkp⟩ := hrel
      have HC : Hid (c = left - ps.length - psum (ps.take k)) := hcv
      clear hcv
      by_cases hlt : k < ps.length
      · obtain ⟨p, hp⟩ : ∃ p, ps[k]? = some p := ⟨_, List.getElem?_eq_getElem hlt⟩
        obtain ⟨b, o, cap', e, c0, c1, c2⟩ := parts_get (hv.kept hkp) hp
        cases e
        have hcm : c ≤ 1048576 := by have := HC.out; omega
        have hps := hs p (List.mem_of_getElem? hp)
        have hsn := psum_snoc (ps.take k) p
        rw [← take_snoc hp] at hsn
        have hst := psum_take ps (k + 1)
        have HS : Hid (psum (ps.take (k + 1)) = psum (ps.take k) + p.1.size ∧ psum (ps.take (k + 1)) ≤ psum ps) := ⟨hsn, hst⟩
        clear hsn hst
        by_cases hle : (p.1.size : Int) ≤ c
        · have hd : decide (c - (p.1.size : Int) < 0) = false := by simp; omega
          go_wp2_with (go_at_call 138; refine (szPart _ _ _ _ _ h0 hcm hps).mono ?_; rintro e w' ⟨rfl, rfl⟩; rw [if_pos hle])
          exact ⟨⟨k + 1, _, hlt, by go_num, rfl, by have := HC.out; have := HS.out; omega, by omega, hkp.alloc _⟩, by simp [intOf]; omega⟩
        · go_wp2_with (go_at_call 138; refine (szPart _ _ _ _ _ h0 hcm hps).mono ?_; rintro e w' ⟨rfl, rfl⟩; rw [if_neg hle])
          go_ret
          exact ⟨ret_int (leftOf_no (by have := HC.out; have := HS.out; unfold pcost; omega)).symm, hkp.alloc _⟩
      · have hke : k = ps.length := by omega
        subst hke
        go_wp2
        go_ret
        have := HC.out
        rw [List.take_length] at this
        exact ⟨ret_int (by rw [leftOf_yes (by unfold pcost; omega)]; unfold pcost; omega), hkp⟩

theorem szEntity (ps : List PD) (id : Int) (v : Value) (left : Int) (w : World) (hv : PartsAt w v ps) (hl : 0 ≤ left) (hm : left ≤ 1048576) (hn : ps.length ≤ 9223372036854775807) (hs : ∀ p ∈ ps, p.1.size ≤ 9223372036854775807) :
    Calls Try.prog 100 #[.agg #[.int .i64 id, v], .int .i64 left] w fun e w' => e = .returned (.int .i64 (leftOf left (pcost ps))) ∧ Kept w w' := by
  obtain ⟨ao, cap, hsl⟩ := row_nil hv
  subst hsl
  go_enter Try.func100, Try.ntmps100
  by_cases hc : (pcost ps : Int) ≤ left
  · have hd : decide (left - (pcost ps : Int) < 0) = false := by simp; omega
    go_wp2_with (go_at_call 119; refine (szPartS ps _ _ _ (hv.kept ((But.refl _ _ _).alloc _)) hl hm hn hs).mono ?_; rintro e w' ⟨rfl, hk⟩; rw [leftOf_yes hc])
    go_ret
    exact ⟨ret_int (leftOf_yes hc).symm, ((But.refl _ _ _).alloc _).trans hk⟩
  · go_wp2_with (go_at_call 119; refine (szPartS ps _ _ _ (hv.kept ((But.refl _ _ _).alloc _)) hl hm hn hs).mono ?_; rintro e w' ⟨rfl, hk⟩; rw [leftOf_no (by omega)])
    go_ret
    exact ⟨ret_int (leftOf_no (by omega)).symm, ((But.refl _ _ _).alloc _).trans hk⟩

/-- What is true of every list that comes in: no length is beyond the language's. -/
def Fits (es : List ED) : Prop := es.length ≤ 9223372036854775807 ∧ ∀ e ∈ es, e.2.length ≤ 9223372036854775807 ∧ ∀ p ∈ e.2, p.1.size ≤ 9223372036854775807

set_option maxHeartbeats 1000000 in
theorem szEntityS (zs : List PE) (es : List ED) (v : Value) (left : Int) (w : World) (hv : EntsAt w v zs) (hes : zs.map strip = es) (hl : 0 ≤ left) (hm : left ≤ 1048576) (hf : Fits es) :
    Calls Try.prog 68 #[v, .int .i64 left] w fun e w' => e = .returned (.int .i64 (leftOf left (ecost es))) ∧ Kept w w' := by
  obtain ⟨ao, cap, hsl⟩ := row_nil hv.1
  subst hsl
  have hlen : zs.length = es.length := by rw [← hes]; simp
  have hn := hf.1
  by_cases hc : left < (zs.length : Int)
  · go_enter Try.func68, Try.ntmps68
    go_wp2
    go_ret
    exact ⟨ret_int (leftOf_no (by unfold ecost; omega)).symm, But.refl _ _ _⟩
  · have hc' : (zs.length : Int) ≤ left := by omega
    have hc2 : decide (left - (zs.length : Int) < 0) = false := by simp; omega
    have HL : Hid (zs.length = es.length ∧ zs.map strip = es) := ⟨hlen, hes⟩
    have hn' : zs.length ≤ 9223372036854775807 := by omega
    clear hlen hes hn
    go_enter Try.func68, Try.ntmps68
    go_wp2
    go_loopw [1, 5] (fun l i wr => ∃ (k : Nat) (c : Int), k ≤ zs.length ∧ i = .int .i64 k ∧ l = .int .i64 c ∧ c = left - zs.length - esum (es.take k) ∧ 0 ≤ c ∧ Kept w wr) (fun l i _ => zs.length - (intOf i).toNat)
    case atStart => exact ⟨0, _, by omega, rfl, rfl, by simp [esum], by omega, But.refl _ _ _⟩
    case round =>
      obtain ⟨k, c, hk, rfl, rfl, hcv, h0, hkp⟩ := hrel
      have HC : Hid (c = left - zs.length - esum (es.take k)) := hcv
      clear hcv
      by_cases hlt : k < zs.length
      · obtain ⟨z, hz⟩ : ∃ z, zs[k]? = some z := ⟨_, List.getElem?_eq_getElem hlt⟩
        obtain ⟨b, o, cap', ao', n, cap'', e, ez, c0, c1, en, hpa⟩ := ents_get (hv.kept hkp) hz
        cases e
        have hcm : c ≤ 1048576 := by have := HC.out; omega
        subst en
        have hek : es[k]? = some (strip z) := by rw [← HL.out.2, List.getElem?_map, hz]; rfl
        have hsn := esum_snoc (es.take k) (strip z)
        rw [← take_snoc hek] at hsn
        have hst := esum_take es (k + 1)
        have HS : Hid (esum (es.take (k + 1)) = esum (es.take k) + pcost z.2.2 ∧ esum (es.take (k + 1)) ≤ esum es) := ⟨hsn, hst⟩
        have hfz := hf.2 _ (List.mem_of_getElem? hek)
        simp only [strip] at hfz
        clear hsn hst hek
        by_cases hle : (pcost z.2.2 : Int) ≤ c
        · have hd : decide (c - (pcost z.2.2 : Int) < 0) = false := by simp; omega
          go_wp2_with (go_at_call 100; refine (szEntity _ _ _ _ _ hpa h0 hcm hfz.1 hfz.2).mono ?_; rintro e w' ⟨rfl, hk2⟩; rw [leftOf_yes hle])
          exact ⟨⟨k + 1, _, hlt, by go_num, rfl, by have := HC.out; have := HS.out; omega, by omega, hkp.trans hk2⟩, by simp [intOf]; omega⟩
        · go_wp2_with (go_at_call 100; refine (szEntity _ _ _ _ _ hpa h0 hcm hfz.1 hfz.2).mono ?_; rintro e w' ⟨rfl, hk2⟩; rw [leftOf_no (by omega)])
          go_ret
          exact ⟨ret_int (leftOf_no (by have := HC.out; have := HS.out; have := HL.out.1; unfold ecost; omega)).symm, hkp.trans hk2⟩
      · have hke : k = zs.length := by omega
        subst hke
        go_wp2
        go_ret
        have h1 := HC.out
        rw [HL.out.1, List.take_length] at h1
        have := HL.out.1
        exact ⟨ret_int (by rw [leftOf_yes (by unfold ecost; omega)]; unfold ecost; omega), hkp⟩

theorem szWorld (D : WD) (v : Value) (left : Int) (w : World) (hv : WAt w v D) (hl : 0 ≤ left) (hm : left ≤ 1048576) (hf : Fits D.2.2) :
    Calls Try.prog 24 #[v, .int .i64 left] w fun e w' => e = .returned (.int .i64 (leftOf left (ecost D.2.2))) ∧ Kept w w' := by
  obtain ⟨ev, zs, rfl, he, hes⟩ := hv
  obtain ⟨ao, cap, hsl⟩ := row_nil he.1
  subst hsl
  have HE : Hid (zs.map strip = D.2.2) := hes
  clear hes
  go_enter Try.func24, Try.ntmps24
  by_cases hc : (ecost D.2.2 : Int) ≤ left
  · have hd : decide (left - (ecost D.2.2 : Int) < 0) = false := by simp; omega
    go_wp2_with (go_at_call 68; refine (szEntityS zs _ _ _ _ (he.kept ((But.refl _ _ _).alloc _)) HE.out hl hm hf).mono ?_; rintro e w' ⟨rfl, hk⟩; rw [leftOf_yes hc])
    go_ret
    exact ⟨ret_int (leftOf_yes hc).symm, ((But.refl _ _ _).alloc _).trans hk⟩
  · go_wp2_with (go_at_call 68; refine (szEntityS zs _ _ _ _ (he.kept ((But.refl _ _ _).alloc _)) HE.out hl hm hf).mono ?_; rintro e w' ⟨rfl, hk⟩; rw [leftOf_no (by omega)])
    go_ret
    exact ⟨ret_int (leftOf_no (by omega)).symm, ((But.refl _ _ _).alloc _).trans hk⟩
end Go.Proofs.Ytajelalimiobeaa
