/-
  Whether an entry is among others.
-/
import Derived.Test.YtgbgnmjgnfocmaaMissP19
namespace Go.Proofs.Ytgbgnmjgnfocmaa
open Go.ChangeShapes Go.WideShapes Go.ChangeAt Go.RowKit

set_option maxRecDepth 100000
set_option linter.unusedVariables false

set_option maxHeartbeats 4000000 in
theorem ihas1 (d e : EntryD) (s : Value) (x : Nat) (w : World) (h0 : w.cell? ⟨x, 0, none⟩ = some (.string d.1)) (h2 : w.cell? ⟨x, 2, none⟩ = some (.bool d.2.2)) (a3 : Option Addr) (n3 p3 : Nat) (hsl : s = .slice a3 n3 p3) :
    Calls Try.prog 17 #[.agg #[.string e.1, s, .bool e.2.2], .pointer (some ⟨x, 0, none⟩)] w fun r w' => r = .returned (.bool (hasE d e)) ∧ Kept w w' := by
  subst hsl
  have hxl : x < w.heap.size := World.block_lt_of_cell? _ _ h0
  obtain ⟨d0, d1, d2⟩ := d
  obtain ⟨e0, e1, e2⟩ := e
  dsimp only at h0 h2 ⊢
  by_cases q1 : e0 = d0
  · have d1' : (e0.toList == d0.toList) = true := by rw [q1]; simp
    cases e2 <;> cases d2
    all_goals
      go_enter Try.func17, Try.ntmps17
      repeat (first | go_values | go_skip | go_guarded | go_step | go_upon)
      go_ret
      exact ⟨ret_boolG (by simp [hasE, q1]), (But.refl _ _ _).alloc _⟩
  · have d1' : (e0.toList == d0.toList) = false := by rw [beq_eq_false_iff_ne]; exact fun h => q1 (toList_inj h)
    go_enter Try.func17, Try.ntmps17
    repeat (first | go_values | go_skip | go_guarded | go_step | go_upon)
    go_ret
    exact ⟨ret_boolG (by simp [hasE, q1]), (But.refl _ _ _).alloc _⟩
set_option maxHeartbeats 4000000 in
theorem ihas_idx (l : List EntryD) (d : EntryD) (x : Nat) (v : Value) (w : World) (hv : EntriesAt w v l) (hn : l.length ≤ 1048576) (h0 : w.cell? ⟨x, 0, none⟩ = some (.string d.1)) (h2 : w.cell? ⟨x, 2, none⟩ = some (.bool d.2.2)) :
    Calls Try.prog 25 #[v, .func (.func 17) #[] #[.pointer (some ⟨x, 0, none⟩)]] w fun e w' => e = .returned (.int .i64 (ixI (l.findIdx? (hasE d)))) ∧ Kept w w' := by
  obtain ⟨ao, cap, hsl⟩ := hv.form
  subst hsl
  go_enter Try.func25, Try.ntmps25
  go_wp2
  go_loopw [8] (fun i wr => ∃ (k : Nat), k ≤ l.length ∧ i = .int .i64 k ∧ Hid (∀ j e, j < k → l[j]? = some e → hasE d e = false) ∧ Kept w wr) (fun i _ => l.length - (intOf i).toNat)
  case atStart => exact ⟨0, by omega, rfl, fun j d hj => by omega, But.refl _ _ _⟩
  case round =>
    obtain ⟨k, hk, rfl, HB, hkp⟩ := hrel
    by_cases hlt : k < l.length
    · obtain ⟨y, hy⟩ : ∃ p, l[k]? = some p := ⟨_, List.getElem?_eq_getElem hlt⟩
      obtain ⟨b, o, cap', s, ee, c0, c1, c2, hka⟩ := (hv.kept hkp).get hy
      cases ee
      have HP : Hid (l[k]? = some y) := hy
      have HK : Hid (Kept w wr) := hkp
      obtain ⟨y0, y1, y2⟩ := y
      dsimp only at c0 c1 c2 hka
      obtain ⟨a3, p3, hsl⟩ := row_nil hka
      subst hsl
      obtain ⟨q, hq⟩ : ∃ q, hasE d (y0, y1, y2) = q := ⟨_, rfl⟩
      have CC : Hid (Calls Try.prog 17 #[.agg #[.string y0, .slice a3 y1.length p3, .bool y2], .pointer (some ⟨x, 0, none⟩)] wr fun e w' => e = .returned (.bool q) ∧ Kept wr w') := by
        rw [← hq]
        exact ihas1 d (y0, y1, y2) _ x wr (Kept.cell HK.out h0) (Kept.cell HK.out h2) a3 _ p3 rfl
      have HQ : Hid (hasE d (y0, y1, y2) = q) := hq
      clear hy hka hkp hv hq h0 h2
      cases q with
      | true =>
        repeat (first | (go_at_call 17; refine CC.out.mono ?_; rintro e w4 ⟨rfl, k4⟩; dsimp only) | go_values | go_skip | go_guarded | go_step | go_upon)
        go_ret
        exact ⟨ret_intG (by rw [idx_yes HB.out HP.out HQ.out]; rfl), HK.out.trans k4⟩
      | false =>
        repeat (first | (go_at_call 17; refine CC.out.mono ?_; rintro e w4 ⟨rfl, k4⟩; dsimp only) | go_values | go_skip | go_guarded | go_step | go_upon)
        exact ⟨⟨k + 1, hlt, by go_num, idx_more HB.out HP.out HQ.out, HK.out.trans k4⟩, by simp [intOf]; omega⟩
    · have hke : k = l.length := by omega
      subst hke
      have HK : Hid (Kept w wr) := hkp
      clear hkp h0 h2
      go_wp2
      go_ret
      exact ⟨ret_intG (by rw [idx_no HB.out]; rfl), HK.out⟩
theorem ihas_any (l : List EntryD) (d : EntryD) (x : Nat) (v : Value) (w : World) (hv : EntriesAt w v l) (hn : l.length ≤ 1048576) (h0 : w.cell? ⟨x, 0, none⟩ = some (.string d.1)) (h2 : w.cell? ⟨x, 2, none⟩ = some (.bool d.2.2)) :
    Calls Try.prog 18 #[v, .func (.func 17) #[] #[.pointer (some ⟨x, 0, none⟩)]] w fun e w' => e = .returned (.bool (l.any (hasE d))) ∧ Kept w w' := by
  have HI : Hid (Calls Try.prog 25 #[v, .func (.func 17) #[] #[.pointer (some ⟨x, 0, none⟩)]] w fun e w' => e = .returned (.int .i64 (ixI (l.findIdx? (hasE d)))) ∧ Kept w w') := ihas_idx l d x v w hv hn h0 h2
  obtain ⟨ao, cap, hsl⟩ := hv.form
  subst hsl
  rw [← idx_any, ← ix_pos]
  clear h0 h2
  go_enter Try.func18, Try.ntmps18
  repeat (first | (go_at_call 25; refine HI.out.mono ?_; rintro e w4 ⟨rfl, k4⟩; dsimp only) | go_values | go_skip | go_guarded | go_step | go_upon)
  go_ret
  exact ⟨rfl, k4⟩

end Go.Proofs.Ytgbgnmjgnfocmaa
