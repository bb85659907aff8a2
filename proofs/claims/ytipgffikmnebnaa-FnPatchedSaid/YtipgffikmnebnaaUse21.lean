/-
  Whether one of those ahead was used when another was.
-/
import Derived.Test.YtipgffikmnebnaaLeaf21
namespace Go.Proofs.Ytipgffikmnebnaa
open Go.ChangeShapes Go.WideShapes Go.ChangeAt Go.RowKit

set_option maxRecDepth 100000
set_option linter.unusedVariables false
set_option linter.unusedSimpArgs false
def ixI : Option Nat → Int
  | some i => i
  | none => -1
theorem ix_pos (o : Option Nat) : decide (0 ≤ ixI o) = o.isSome := by
  cases o with
  | none => rfl
  | some i => simp [ixI]
theorem idx_yes {α : Type} {l : List α} {p : α → Bool} {k : Nat} {d : α} (h : ∀ j d, j < k → l[j]? = some d → p d = false) (hd : l[k]? = some d) (he : p d = true) : l.findIdx? p = some k := by
  rw [List.findIdx?_eq_some_iff_getElem]
  obtain ⟨hk, e⟩ := List.getElem?_eq_some_iff.1 hd
  refine ⟨hk, by rw [e]; exact he, fun j hj => ?_⟩
  have hj2 : j < l.length := by omega
  have := h j l[j] hj (List.getElem?_eq_getElem hj2)
  rw [this]
  simp
theorem idx_no {α : Type} {l : List α} {p : α → Bool} (h : ∀ j d, j < l.length → l[j]? = some d → p d = false) : l.findIdx? p = none := by
  rw [List.findIdx?_eq_none_iff]
  intro d hd
  obtain ⟨j, hj⟩ := List.mem_iff_getElem?.1 hd
  exact h j d (List.getElem?_eq_some_iff.1 hj).1 hj
theorem idx_more {α : Type} {l : List α} {p : α → Bool} {k : Nat} {d : α} (h : ∀ j d, j < k → l[j]? = some d → p d = false) (hd : l[k]? = some d) (he : p d = false) : ∀ j d, j < k + 1 → l[j]? = some d → p d = false := fun j d' hj hd' => by
  by_cases e : j = k
  · subst e
    rw [hd] at hd'
    cases hd'
    exact he
  · exact h j d' (by omega) hd'
theorem idx_any {α : Type} (l : List α) (p : α → Bool) : (l.findIdx? p).isSome = l.any p := by
  rw [List.findIdx?_isSome]

theorem iua1 (y0 f0 : ByteArray) (y1 y2 y3 f1 f2 f3 : Int) (x : Nat) (w : World) (hx : w.cell? ⟨x, 3, none⟩ = some (.int .i64 f3)) :
    Calls Try.prog 136 #[.agg #[.string y0, .int .i64 y1, .int .i64 y2, .int .i64 y3], .pointer (some ⟨x, 0, none⟩)] w fun e w' => e = .returned (.bool (y3 == f3)) ∧ Kept w w' := by
  have hxl := World.block_lt_of_cell? _ _ hx
  go_enter Try.func136, Try.ntmps136
  go_wp2
  all_goals
    go_ret
    exact ⟨rfl, (But.refl _ _ _).alloc _⟩

set_option maxHeartbeats 4000000 in
theorem ua_idx (l : List ResidentD) (f0 : ByteArray) (f1 f2 f3 : Int) (x : Nat) (v : Value) (w : World) (hv : ResidentAt w v l) (hn : l.length ≤ 1048576) (hx : w.cell? ⟨x, 3, none⟩ = some (.int .i64 f3)) :
    Calls Try.prog 157 #[v, .func (.func 136) #[] #[.pointer (some ⟨x, 0, none⟩)]] w fun e w' => e = .returned (.int .i64 (ixI (l.findIdx? (fun q : ResidentD => q.2.2.2 == f3)))) ∧ Kept w w' := by
  obtain ⟨ao, cap, hsl⟩ := row_nil hv
  subst hsl
  go_enter Try.func157, Try.ntmps157
  go_wp2
  go_loopw [8] (fun i wr => ∃ (k : Nat), k ≤ l.length ∧ i = .int .i64 k ∧ Hid (∀ j d, j < k → l[j]? = some d → (fun q : ResidentD => q.2.2.2 == f3) d = false) ∧ Kept w wr) (fun i _ => l.length - (intOf i).toNat)
  case atStart => exact ⟨0, by omega, rfl, fun j d hj => by omega, But.refl _ _ _⟩
  case round =>
    obtain ⟨k, hk, rfl, HB, hkp⟩ := hrel
    by_cases hlt : k < l.length
    · obtain ⟨d, hd⟩ : ∃ p, l[k]? = some p := ⟨_, List.getElem?_eq_getElem hlt⟩
      obtain ⟨b, o, cap', ee, c0, c1, c2, c3⟩ := resident_get (hv.kept hkp) hd
      cases ee
      have HP : Hid (l[k]? = some d) := hd
      have HK : Hid (Kept w wr) := hkp
      obtain ⟨y0, y1, y2, y3⟩ := d
      dsimp only at c0 c1 c2 c3
      obtain ⟨q, hq⟩ : ∃ q, (fun q : ResidentD => q.2.2.2 == f3) (y0, y1, y2, y3) = q := ⟨_, rfl⟩
      have CC : Hid (Calls Try.prog 136 #[.agg #[.string y0, .int .i64 y1, .int .i64 y2, .int .i64 y3], .pointer (some ⟨x, 0, none⟩)] wr fun e w' => e = .returned (.bool q) ∧ Kept wr w') := by
        rw [← hq]
        exact iua1 y0 f0 y1 y2 y3 f1 f2 f3 x wr (Kept.cell HK.out hx)
      have HQ : Hid ((fun q : ResidentD => q.2.2.2 == f3) (y0, y1, y2, y3) = q) := hq
      clear hd hkp hv hq
      cases q with
      | true =>
        repeat (first | (go_at_call 136; refine CC.out.mono ?_; rintro e w4 ⟨rfl, k4⟩; dsimp only) | go_values | go_skip | go_guarded | go_step | go_upon)
        go_ret
        exact ⟨ret_intG (by rw [idx_yes HB.out HP.out HQ.out]; rfl), HK.out.trans k4⟩
      | false =>
        repeat (first | (go_at_call 136; refine CC.out.mono ?_; rintro e w4 ⟨rfl, k4⟩; dsimp only) | go_values | go_skip | go_guarded | go_step | go_upon)
        exact ⟨⟨k + 1, hlt, by go_num, idx_more HB.out HP.out HQ.out, HK.out.trans k4⟩, by simp [intOf]; omega⟩
    · have hke : k = l.length := by omega
      subst hke
      have HK : Hid (Kept w wr) := hkp
      clear hkp
      go_wp2
      go_ret
      exact ⟨ret_intG (by rw [idx_no HB.out]; rfl), HK.out⟩
theorem ua_any (l : List ResidentD) (f0 : ByteArray) (f1 f2 f3 : Int) (x : Nat) (v : Value) (w : World) (hv : ResidentAt w v l) (hn : l.length ≤ 1048576) (hx : w.cell? ⟨x, 3, none⟩ = some (.int .i64 f3)) :
    Calls Try.prog 135 #[v, .func (.func 136) #[] #[.pointer (some ⟨x, 0, none⟩)]] w fun e w' => e = .returned (.bool (l.any (fun q : ResidentD => q.2.2.2 == f3))) ∧ Kept w w' := by
  have HI : Hid (Calls Try.prog 157 #[v, .func (.func 136) #[] #[.pointer (some ⟨x, 0, none⟩)]] w fun e w' => e = .returned (.int .i64 (ixI (l.findIdx? (fun q : ResidentD => q.2.2.2 == f3)))) ∧ Kept w w') := ua_idx l f0 f1 f2 f3 x v w hv hn hx
  obtain ⟨ao, cap, hsl⟩ := row_nil hv
  subst hsl
  rw [← idx_any, ← ix_pos]
  go_enter Try.func135, Try.ntmps135
  repeat (first | (go_at_call 157; refine HI.out.mono ?_; rintro e w4 ⟨rfl, k4⟩; dsimp only) | go_values | go_skip | go_guarded | go_step | go_upon)
  go_ret
  exact ⟨rfl, k4⟩

set_option maxHeartbeats 4000000 in
theorem ialike (l : List ResidentD) (f0 : ByteArray) (f1 f2 f3 : Int) (v : Value) (w : World) (hv : ResidentAt w v l) (hn : l.length ≤ 1048576) :
    Calls Try.prog 95 #[v, .agg #[.string f0, .int .i64 f1, .int .i64 f2, .int .i64 f3]] w fun e w' => e = .returned (.bool (alikeB l f3)) ∧ Kept w w' := by
  have hv1 : ResidentAt (w.alloc (.cells #[.string f0, .int .i64 f1, .int .i64 f2, .int .i64 f3] 39)) v l := hv.kept ((But.refl _ _ _).alloc _)
  have L1 := Loc.new w [.string f0, .int .i64 f1, .int .i64 f2, .int .i64 f3] 39
  have HI : Hid (Calls Try.prog 135 #[v, .func (.func 136) #[] #[.pointer (some ⟨w.heap.size, 0, none⟩)]] (w.alloc (.cells #[.string f0, .int .i64 f1, .int .i64 f2, .int .i64 f3] 39)) fun e w' => e = .returned (.bool (l.any fun q => q.2.2.2 == f3)) ∧ Kept (w.alloc (.cells #[.string f0, .int .i64 f1, .int .i64 f2, .int .i64 f3] 39)) w') := ua_any l f0 f1 f2 f3 w.heap.size v _ hv1 hn (L1.cell 3 rfl)
  clear L1 hv1
  obtain ⟨ao, cap, hsl⟩ := row_nil hv
  subst hsl
  by_cases h : f3 = 0
  · subst h
    have hR : alikeB l 0 = false := rfl
    rw [hR]
    go_enter Try.func95, Try.ntmps95
    repeat (first | go_values | go_skip | go_guarded | go_step | go_upon)
    go_ret
    exact ⟨rfl, (But.refl _ _ _).alloc _⟩
  · have hR : alikeB l f3 = l.any fun q => q.2.2.2 == f3 := by
      unfold alikeB
      rw [decide_eq_true h]
      rfl
    rw [hR]
    have h0 : (f3 == 0) = false := by simpa using h
    have h1 : (f3 != 0) = true := by simpa using h
    clear h
    go_enter Try.func95, Try.ntmps95
    repeat (first | (go_at_call 135; refine HI.out.mono ?_; rintro e w4 ⟨rfl, k4⟩; dsimp only) | go_values | go_skip | go_guarded | go_step | go_upon)
    go_ret
    exact ⟨rfl, ((But.refl _ _ _).alloc _).trans k4⟩

end Go.Proofs.Ytipgffikmnebnaa
