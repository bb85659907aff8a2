/-
  Whether a chord is among the binds.
-/
import Derived.Test.YthkfpbknfjapaaaSame17
namespace Go.Proofs.Ythkfpbknfjapaaa
open Go.ChangeShapes Go.WideShapes Go.ChangeAt Go.RowKit

set_option maxRecDepth 100000
set_option linter.unusedVariables false

set_option maxHeartbeats 4000000 in
theorem ihas1 (d0 : ByteArray) (d1 c : List Int) (a3 : Option Addr) (p3 : Nat) (x : Nat) (s : Value) (w : World) (hv : NumAt w (.slice a3 d1.length p3) d1) (hx : w.cell? ⟨x, 0, none⟩ = some s) (hc : NumAt w s c) (hn : d1.length ≤ 1048576) (hm : c.length ≤ 1048576) :
    Calls Try.prog 100 #[.agg #[.string d0, .slice a3 d1.length p3], .pointer (some ⟨x, 0, none⟩)] w fun e w' => e = .returned (.bool (decide (d1 = c))) ∧ Kept w w' := by
  obtain ⟨a4, p4, hsl⟩ := row_nil hc
  subst hsl
  have hxl : x < w.heap.size := World.block_lt_of_cell? _ _ hx
  go_enter Try.func100, Try.ntmps100
  repeat (first | (go_at_call 64; refine (isame d1 c _ _ _ (hv.kept ((But.refl _ _ _).alloc _)) (hc.kept ((But.refl _ _ _).alloc _)) hn hm).mono ?_; rintro e w4 ⟨rfl, k4⟩; dsimp only) | go_values | go_skip | go_guarded | go_step | go_upon)
  go_ret
  exact ⟨rfl, ((But.refl _ _ _).alloc _).trans k4⟩

set_option maxHeartbeats 4000000 in
theorem has_idx (l : List BindD) (c : List Int) (x : Nat) (s : Value) (v : Value) (w : World) (hv : BindsAt w v l) (hn : l.length ≤ 1048576) (hs : ∀ d ∈ l, d.2.length ≤ 1048576) (hx : w.cell? ⟨x, 0, none⟩ = some s) (hc : NumAt w s c) (hm : c.length ≤ 1048576) :
    Calls Try.prog 111 #[v, .func (.func 100) #[] #[.pointer (some ⟨x, 0, none⟩)]] w fun e w' => e = .returned (.int .i64 (ixI (l.findIdx? (fun d : BindD => decide (d.2 = c))))) ∧ Kept w w' := by
  obtain ⟨ao, cap, hsl⟩ := hv.form
  subst hsl
  go_enter Try.func111, Try.ntmps111
  go_wp2
  go_loopw [8] (fun i wr => ∃ (k : Nat), k ≤ l.length ∧ i = .int .i64 k ∧ Hid (∀ j d, j < k → l[j]? = some d → (fun d : BindD => decide (d.2 = c)) d = false) ∧ Kept w wr) (fun i _ => l.length - (intOf i).toNat)
  case atStart => exact ⟨0, by omega, rfl, fun j d hj => by omega, But.refl _ _ _⟩
  case round =>
    obtain ⟨k, hk, rfl, HB, hkp⟩ := hrel
    by_cases hlt : k < l.length
    · obtain ⟨d, hd⟩ : ∃ p, l[k]? = some p := ⟨_, List.getElem?_eq_getElem hlt⟩
      obtain ⟨b, o, cap', s, ee, c0, c1, hka⟩ := (hv.kept hkp).get hd
      cases ee
      have hsz := hs d (List.mem_of_getElem? hd)
      have HP : Hid (l[k]? = some d) := hd
      have HK : Hid (Kept w wr) := hkp
      obtain ⟨d0, d1⟩ := d
      dsimp only at c0 c1 hka hsz
      obtain ⟨a3, p3, hsl⟩ := row_nil hka
      subst hsl
      have HN : Hid (NumAt wr (.slice a3 d1.length p3) d1) := hka
      obtain ⟨q, hq⟩ : ∃ q, (fun d : BindD => decide (d.2 = c)) (d0, d1) = q := ⟨_, rfl⟩
      have CC : Hid (Calls Try.prog 100 #[.agg #[.string d0, .slice a3 d1.length p3], .pointer (some ⟨x, 0, none⟩)] wr fun e w' => e = .returned (.bool q) ∧ Kept wr w') := by
        rw [← hq]
        exact ihas1 d0 d1 c a3 p3 x s wr HN.out (Kept.cell HK.out hx) (hc.kept HK.out) hsz hm
      have HQ : Hid ((fun d : BindD => decide (d.2 = c)) (d0, d1) = q) := hq
      clear hd hka hkp hv hq
      cases q with
      | true =>
        repeat (first | (go_at_call 100; refine CC.out.mono ?_; rintro e w4 ⟨rfl, k4⟩; dsimp only) | go_values | go_skip | go_guarded | go_step | go_upon)
        go_ret
        exact ⟨ret_intG (by rw [idx_yes HB.out HP.out HQ.out]; rfl), HK.out.trans k4⟩
      | false =>
        repeat (first | (go_at_call 100; refine CC.out.mono ?_; rintro e w4 ⟨rfl, k4⟩; dsimp only) | go_values | go_skip | go_guarded | go_step | go_upon)
        exact ⟨⟨k + 1, hlt, by go_num, idx_more HB.out HP.out HQ.out, HK.out.trans k4⟩, by simp [intOf]; omega⟩
    · have hke : k = l.length := by omega
      subst hke
      have HK : Hid (Kept w wr) := hkp
      clear hkp
      go_wp2
      go_ret
      exact ⟨ret_intG (by rw [idx_no HB.out]; rfl), HK.out⟩
theorem has_any (l : List BindD) (c : List Int) (x : Nat) (s : Value) (v : Value) (w : World) (hv : BindsAt w v l) (hn : l.length ≤ 1048576) (hs : ∀ d ∈ l, d.2.length ≤ 1048576) (hx : w.cell? ⟨x, 0, none⟩ = some s) (hc : NumAt w s c) (hm : c.length ≤ 1048576) :
    Calls Try.prog 89 #[v, .func (.func 100) #[] #[.pointer (some ⟨x, 0, none⟩)]] w fun e w' => e = .returned (.bool (l.any (fun d : BindD => decide (d.2 = c)))) ∧ Kept w w' := by
  have HI : Hid (Calls Try.prog 111 #[v, .func (.func 100) #[] #[.pointer (some ⟨x, 0, none⟩)]] w fun e w' => e = .returned (.int .i64 (ixI (l.findIdx? (fun d : BindD => decide (d.2 = c))))) ∧ Kept w w') := has_idx l c x s v w hv hn hs hx hc hm
  obtain ⟨ao, cap, hsl⟩ := hv.form
  subst hsl
  rw [← idx_any, ← ix_pos]
  go_enter Try.func89, Try.ntmps89
  repeat (first | (go_at_call 111; refine HI.out.mono ?_; rintro e w4 ⟨rfl, k4⟩; dsimp only) | go_values | go_skip | go_guarded | go_step | go_upon)
  go_ret
  exact ⟨rfl, k4⟩

set_option maxHeartbeats 4000000 in
theorem ihas (l : List BindD) (c : List Int) (v s : Value) (w : World) (hv : BindsAt w v l) (hc : NumAt w s c) (hn : l.length ≤ 1048576) (hs : ∀ d ∈ l, d.2.length ≤ 1048576) (hm : c.length ≤ 1048576) :
    Calls Try.prog 61 #[v, s] w fun e w' => e = .returned (.bool (hasC l c)) ∧ Kept w w' := by
  obtain ⟨ao, cap, hsl⟩ := hv.form
  subst hsl
  obtain ⟨a4, p4, hsl⟩ := row_nil hc
  subst hsl
  have L0 := Loc.new w [.slice a4 c.length p4] 39
  have HA : Hid (Calls Try.prog 89 #[.slice ao l.length cap, .func (.func 100) #[] #[.pointer (some ⟨w.heap.size, 0, none⟩)]] (w.alloc (.cells #[.slice a4 c.length p4] 39)) fun e w' => e = .returned (.bool (hasC l c)) ∧ Kept (w.alloc (.cells #[.slice a4 c.length p4] 39)) w') :=
    has_any l c w.heap.size _ _ _ (hv.kept ((But.refl _ _ _).alloc _)) hn hs (L0.cell 0 rfl) (hc.kept ((But.refl _ _ _).alloc _)) hm
  clear L0
  go_enter Try.func61, Try.ntmps61
  repeat (first | (go_at_call 89; refine HA.out.mono ?_; rintro e w4 ⟨rfl, k4⟩; dsimp only) | go_values | go_skip | go_guarded | go_step | go_upon)
  go_ret
  exact ⟨rfl, ((But.refl _ _ _).alloc _).trans k4⟩

end Go.Proofs.Ythkfpbknfjapaaa
