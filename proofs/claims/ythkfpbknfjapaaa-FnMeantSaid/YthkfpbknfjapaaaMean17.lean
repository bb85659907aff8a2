/-
  Whether a bind is on, in the program.
-/
import Derived.Test.YthkfpbknfjapaaaMeaP17
import Derived.Test.YthkfpbknfjapaaaMap17
import Derived.Test.YthkfpbknfjapaaaHas17
namespace Go.Proofs.Ythkfpbknfjapaaa
open Go.ChangeShapes Go.WideShapes Go.ChangeAt Go.RowKit

set_option maxRecDepth 100000
set_option linter.unusedVariables false

set_option maxHeartbeats 4000000 in
theorem iidx14 (c : List Int) (x : Int) (v : Value) (w : World) (hv : NumAt w v c) (hn : c.length ≤ 1048576) :
    Calls Try.prog 131 #[v, .int .i64 x] w fun e w' => e = .returned (.int .i64 (ixI (c.findIdx? fun y : Int => decide (x = y)))) ∧ Kept w w' := by
  obtain ⟨ao, cap, hsl⟩ := row_nil hv
  subst hsl
  go_enter Try.func131, Try.ntmps131
  repeat (first | go_values | go_skip | go_guarded | go_step | go_upon)
  go_loopw [8] (fun i wr => ∃ (k : Nat), k ≤ c.length ∧ i = .int .i64 k ∧ Hid (∀ j y, j < k → c[j]? = some y → (fun y : Int => decide (x = y)) y = false) ∧ Kept w wr) (fun i _ => c.length - (intOf i).toNat)
  case atStart => exact ⟨0, by omega, rfl, fun j x hj => by omega, But.refl _ _ _⟩
  case round =>
    obtain ⟨k, hk2, rfl, HB, hkp⟩ := hrel
    by_cases hlt : k < c.length
    · obtain ⟨p, hp⟩ : ∃ p : Int, c[k]? = some p := ⟨_, List.getElem?_eq_getElem hlt⟩
      obtain ⟨g, o, cap1, ee, c0⟩ := num_get (hv.kept hkp) hp
      cases ee
      have HK : Hid (Kept w wr) := hkp
      have HP : Hid (c[k]? = some p) := hp
      clear hkp hp hv
      by_cases hin : x = p
      · have dq : decide (x = p) = true := decide_eq_true hin
        have HQ : Hid ((fun y : Int => decide (x = y)) p = true) := dq
        repeat (first | go_values | go_skip | go_guarded | go_step | go_upon)
        go_ret
        exact ⟨ret_intG (by rw [idx_yes HB.out HP.out HQ.out]; rfl), HK.out⟩
      · have dq : decide (x = p) = false := decide_eq_false hin
        have HQ : Hid ((fun y : Int => decide (x = y)) p = false) := dq
        repeat (first | go_values | go_skip | go_guarded | go_step | go_upon)
        exact ⟨⟨k + 1, hlt, by go_num, idx_more HB.out HP.out HQ.out, HK.out⟩, by simp [intOf]; omega⟩
    · have hke : k = c.length := by omega
      subst hke
      have HK : Hid (Kept w wr) := hkp
      clear hkp
      go_wp2
      go_ret
      exact ⟨ret_intG (by rw [idx_no HB.out]; rfl), HK.out⟩
theorem any_mem (c : List Int) (x : Int) : (c.any fun y : Int => decide (x = y)) = decide (x ∈ c) := by
  by_cases h : x ∈ c
  · rw [decide_eq_true h, List.any_eq_true]
    exact ⟨x, h, by simp⟩
  · rw [decide_eq_false h]
    rw [Bool.eq_false_iff]
    intro h'
    rw [List.any_eq_true] at h'
    obtain ⟨y, hy, e⟩ := h'
    simp at e
    subst e
    exact h hy
theorem icon14 (c : List Int) (x : Int) (v : Value) (w : World) (hv : NumAt w v c) (hn : c.length ≤ 1048576) :
    Calls Try.prog 114 #[v, .int .i64 x] w fun e w' => e = .returned (.bool (decide (x ∈ c))) ∧ Kept w w' := by
  have HI : Hid (Calls Try.prog 131 #[v, .int .i64 x] w fun e w' => e = .returned (.int .i64 (ixI (c.findIdx? fun y : Int => decide (x = y)))) ∧ Kept w w') := iidx14 c x v w hv hn
  obtain ⟨ao, cap, hsl⟩ := row_nil hv
  subst hsl
  rw [← any_mem, ← idx_any, ← ix_pos]
  go_enter Try.func114, Try.ntmps114
  repeat (first | (go_at_call 131; refine HI.out.mono ?_; rintro e w4 ⟨rfl, k4⟩; dsimp only) | go_values | go_skip | go_guarded | go_step | go_upon)
  go_ret
  exact ⟨rfl, k4⟩
theorem itc1 (g : List Int) (y : Int) (x : Nat) (s : Value) (w : World) (hx : w.cell? ⟨x, 0, none⟩ = some s) (hc : NumAt w s g) (hn : g.length ≤ 1048576) :
    Calls Try.prog 113 #[.int .i64 y, .pointer (some ⟨x, 0, none⟩)] w fun e w' => e = .returned (.bool (!decide (y ∈ g))) ∧ Kept w w' := by
  obtain ⟨a4, p4, hsl⟩ := row_nil hc
  subst hsl
  have hxl : x < w.heap.size := World.block_lt_of_cell? _ _ hx
  have HI : Hid (Calls Try.prog 114 #[.slice a4 g.length p4, .int .i64 y] w fun e w' => e = .returned (.bool (decide (y ∈ g))) ∧ Kept w w') := icon14 g y _ w hc hn
  clear hc
  generalize decide (y ∈ g) = q at *
  go_enter Try.func113, Try.ntmps113
  repeat (first | (go_at_call 114; refine HI.out.mono ?_; rintro e w4 ⟨rfl, k4⟩; dsimp only) | go_values | go_skip | go_guarded | go_step | go_upon)
  go_ret
  exact ⟨rfl, k4⟩

set_option maxHeartbeats 4000000 in
theorem tk_idx (l : List Int) (g : List Int) (x : Nat) (s : Value) (v : Value) (w : World) (hv : NumAt w v l) (hn : l.length ≤ 1048576) (hx : w.cell? ⟨x, 0, none⟩ = some s) (hc : NumAt w s g) (hm : g.length ≤ 1048576) :
    Calls Try.prog 130 #[v, .func (.func 113) #[] #[.pointer (some ⟨x, 0, none⟩)]] w fun e w' => e = .returned (.int .i64 (ixI (l.findIdx? (fun d : Int => !decide (d ∈ g))))) ∧ Kept w w' := by
  obtain ⟨ao, cap, hsl⟩ := row_nil hv
  subst hsl
  go_enter Try.func130, Try.ntmps130
  go_wp2
  go_loopw [8] (fun i wr => ∃ (k : Nat), k ≤ l.length ∧ i = .int .i64 k ∧ Hid (∀ j d, j < k → l[j]? = some d → (fun d : Int => !decide (d ∈ g)) d = false) ∧ Kept w wr) (fun i _ => l.length - (intOf i).toNat)
  case atStart => exact ⟨0, by omega, rfl, fun j d hj => by omega, But.refl _ _ _⟩
  case round =>
    obtain ⟨k, hk, rfl, HB, hkp⟩ := hrel
    by_cases hlt : k < l.length
    · obtain ⟨d, hd⟩ : ∃ p, l[k]? = some p := ⟨_, List.getElem?_eq_getElem hlt⟩
      obtain ⟨b, o, cap', ee, c0⟩ := num_get (hv.kept hkp) hd
      cases ee
      have HP : Hid (l[k]? = some d) := hd
      have HK : Hid (Kept w wr) := hkp
      obtain ⟨q, hq⟩ : ∃ q, (fun d : Int => !decide (d ∈ g)) d = q := ⟨_, rfl⟩
      have CC : Hid (Calls Try.prog 113 #[.int .i64 d, .pointer (some ⟨x, 0, none⟩)] wr fun e w' => e = .returned (.bool q) ∧ Kept wr w') := by
        rw [← hq]
        exact itc1 g d x s wr (Kept.cell HK.out hx) (hc.kept HK.out) hm
      have HQ : Hid ((fun d : Int => !decide (d ∈ g)) d = q) := hq
      clear hd hkp hv hq
      cases q with
      | true =>
        repeat (first | (go_at_call 113; refine CC.out.mono ?_; rintro e w4 ⟨rfl, k4⟩; dsimp only) | go_values | go_skip | go_guarded | go_step | go_upon)
        go_ret
        exact ⟨ret_intG (by rw [idx_yes HB.out HP.out HQ.out]; rfl), HK.out.trans k4⟩
      | false =>
        repeat (first | (go_at_call 113; refine CC.out.mono ?_; rintro e w4 ⟨rfl, k4⟩; dsimp only) | go_values | go_skip | go_guarded | go_step | go_upon)
        exact ⟨⟨k + 1, hlt, by go_num, idx_more HB.out HP.out HQ.out, HK.out.trans k4⟩, by simp [intOf]; omega⟩
    · have hke : k = l.length := by omega
      subst hke
      have HK : Hid (Kept w wr) := hkp
      clear hkp
      go_wp2
      go_ret
      exact ⟨ret_intG (by rw [idx_no HB.out]; rfl), HK.out⟩
theorem tk_any (l : List Int) (g : List Int) (x : Nat) (s : Value) (v : Value) (w : World) (hv : NumAt w v l) (hn : l.length ≤ 1048576) (hx : w.cell? ⟨x, 0, none⟩ = some s) (hc : NumAt w s g) (hm : g.length ≤ 1048576) :
    Calls Try.prog 112 #[v, .func (.func 113) #[] #[.pointer (some ⟨x, 0, none⟩)]] w fun e w' => e = .returned (.bool (l.any (fun d : Int => !decide (d ∈ g)))) ∧ Kept w w' := by
  have HI : Hid (Calls Try.prog 130 #[v, .func (.func 113) #[] #[.pointer (some ⟨x, 0, none⟩)]] w fun e w' => e = .returned (.int .i64 (ixI (l.findIdx? (fun d : Int => !decide (d ∈ g))))) ∧ Kept w w') := tk_idx l g x s v w hv hn hx hc hm
  obtain ⟨ao, cap, hsl⟩ := row_nil hv
  subst hsl
  rw [← idx_any, ← ix_pos]
  go_enter Try.func112, Try.ntmps112
  repeat (first | (go_at_call 130; refine HI.out.mono ?_; rintro e w4 ⟨rfl, k4⟩; dsimp only) | go_values | go_skip | go_guarded | go_step | go_upon)
  go_ret
  exact ⟨rfl, k4⟩

theorem allK_any (c g : List Int) : (!(c.any fun d : Int => !decide (d ∈ g))) = allK c g := by
  unfold allK
  rw [List.not_any_eq_all_not]
  simp
set_option maxHeartbeats 4000000 in
theorem itakes (g c : List Int) (v s : Value) (w : World) (hv : NumAt w v g) (hc : NumAt w s c) (hn : g.length ≤ 1048576) (hm : c.length ≤ 1048576) :
    Calls Try.prog 91 #[v, s] w fun e w' => e = .returned (.bool (decide (c.length < g.length) && allK c g)) ∧ Kept w w' := by
  obtain ⟨ao, cap, hsl⟩ := row_nil hv
  subst hsl
  obtain ⟨a4, p4, hsl⟩ := row_nil hc
  subst hsl
  have L0 := Loc.new w [.slice ao g.length cap] 39
  have HA : Hid (Calls Try.prog 112 #[.slice a4 c.length p4, .func (.func 113) #[] #[.pointer (some ⟨w.heap.size, 0, none⟩)]] (w.alloc (.cells #[.slice ao g.length cap] 39)) fun e w' => e = .returned (.bool (c.any fun d : Int => !decide (d ∈ g))) ∧ Kept (w.alloc (.cells #[.slice ao g.length cap] 39)) w') :=
    tk_any c g w.heap.size _ _ _ (hc.kept ((But.refl _ _ _).alloc _)) hm (L0.cell 0 rfl) (hv.kept ((But.refl _ _ _).alloc _)) hn
  rw [← allK_any]
  generalize (c.any fun d : Int => !decide (d ∈ g)) = q at *
  clear L0
  by_cases hlt : c.length < g.length
  · have dl : decide ((c.length : Int) < (g.length : Int)) = true := by simp; omega
    rw [decide_eq_true hlt]
    go_enter Try.func91, Try.ntmps91
    repeat (first | (go_at_call 112; refine HA.out.mono ?_; rintro e w4 ⟨rfl, k4⟩; dsimp only) | go_values | go_skip | go_guarded | go_step | go_upon)
    go_ret
    exact ⟨rfl, ((But.refl _ _ _).alloc _).trans k4⟩
  · have dl : decide ((c.length : Int) < (g.length : Int)) = false := by simp; omega
    rw [decide_eq_false hlt]
    go_enter Try.func91, Try.ntmps91
    repeat (first | go_values | go_skip | go_guarded | go_step | go_upon)
    go_ret
    exact ⟨rfl, (But.refl _ _ _).alloc _⟩
set_option maxHeartbeats 4000000 in
theorem imean1 (d0 : ByteArray) (d1 c h : List Int) (a3 : Option Addr) (p3 x y b n : Nat) (s : Value) (w : World) (hv : NumAt w (.slice a3 d1.length p3) d1) (hx : w.cell? ⟨x, 0, none⟩ = some s) (hc : NumAt w s c) (hy : w.cell? ⟨y, 0, none⟩ = some (.map (some b))) (hm : KeysM w b n h) (hn : d1.length ≤ 4) (hcn : c.length ≤ 4) (hk : ∀ k ∈ d1, 0 ≤ k ∧ k ≤ 99) :
    Calls Try.prog 90 #[.agg #[.string d0, .slice a3 d1.length p3], .pointer (some ⟨x, 0, none⟩), .pointer (some ⟨y, 0, none⟩)] w fun e w' => e = .returned (.bool (decide (c.length < d1.length) && allK c d1 && allK d1 h)) ∧ Kept w w' := by
  obtain ⟨a4, p4, hsl⟩ := row_nil hc
  subst hsl
  have hxl : x < w.heap.size := World.block_lt_of_cell? _ _ hx
  have hyl : y < w.heap.size := World.block_lt_of_cell? _ _ hy
  have HT : Hid (∀ W, Kept w W → Calls Try.prog 91 #[.slice a3 d1.length p3, .slice a4 c.length p4] W fun e w' => e = .returned (.bool (decide (c.length < d1.length) && allK c d1)) ∧ Kept W w') := fun W k => itakes d1 c _ _ W (hv.kept k) (hc.kept k) (by omega) (by omega)
  have HH : Hid (∀ W, Kept w W → Calls Try.prog 88 #[.map (some b), .slice a3 d1.length p3] W fun e w' => e = .returned (.bool (allK d1 h)) ∧ Kept W w') := fun W k => ihasall d1 h b n _ W (hm.kept k) (hv.kept k) hk (by omega)
  have HY : Hid (∀ W, Kept w W → W.cell? ⟨y, 0, none⟩ = some (.map (some b))) := fun W k => Kept.cell k hy
  have L0 : Hid (∀ W, Kept (w.alloc (.cells #[.string d0, .slice a3 d1.length p3] 85)) W → Loc W w.heap.size [.string d0, .slice a3 d1.length p3]) := fun W k => (Loc.new w [.string d0, .slice a3 d1.length p3] 85).kept k
  clear hv hc hm hk hy
  generalize (decide (c.length < d1.length) && allK c d1) = q1 at *
  generalize allK d1 h = q2 at *
  cases q1 with
  | false =>
    go_enter Try.func90, Try.ntmps90
    repeat (first | (go_at_call 91; refine (HT.out _ ((But.refl _ _ _).alloc _)).mono ?_; rintro e w4 ⟨rfl, k4⟩; dsimp only) | go_values | go_skip | go_guarded | go_step | go_upon)
    go_ret
    exact ⟨rfl, ((But.refl _ _ _).alloc _).trans k4⟩
  | true =>
    go_enter Try.func90, Try.ntmps90
    repeat (first | (go_at_call 91; refine (HT.out _ ((But.refl _ _ _).alloc _)).mono ?_; rintro e w4 ⟨rfl, k4⟩; have y4 := HY.out w4 (((But.refl _ _ w).alloc _).trans k4); have l4 := (L0.out w4 k4).cell 1 rfl; dsimp only) | (go_at_call 88; refine (HH.out w4 (((But.refl _ _ w).alloc _).trans k4)).mono ?_; rintro e w5 ⟨rfl, k5⟩; dsimp only) | go_values | go_skip | go_guarded | go_step | go_upon)
    go_ret
    exact ⟨rfl, ((But.refl _ _ _).alloc _).trans (k4.trans k5)⟩

set_option maxHeartbeats 4000000 in
theorem mea_idx (l : List BindD) (c h : List Int) (x y mb n : Nat) (s : Value) (v : Value) (w : World) (hv : BindsAt w v l) (hn : l.length ≤ 1048576) (hs : ∀ d ∈ l, d.2.length ≤ 1048576) (hx : w.cell? ⟨x, 0, none⟩ = some s) (hc : NumAt w s c) (hy : w.cell? ⟨y, 0, none⟩ = some (.map (some mb))) (hm : KeysM w mb n h) (hb : BindsP l) (hcn : c.length ≤ 4) :
    Calls Try.prog 111 #[v, .func (.func 90) #[] #[.pointer (some ⟨x, 0, none⟩), .pointer (some ⟨y, 0, none⟩)]] w fun e w' => e = .returned (.int .i64 (ixI (l.findIdx? (fun d : BindD => decide (c.length < d.2.length) && allK c d.2 && allK d.2 h)))) ∧ Kept w w' := by
  obtain ⟨ao, cap, hsl⟩ := hv.form
  subst hsl
  go_enter Try.func111, Try.ntmps111
  go_wp2
  go_loopw [8] (fun i wr => ∃ (k : Nat), k ≤ l.length ∧ i = .int .i64 k ∧ Hid (∀ j d, j < k → l[j]? = some d → (fun d : BindD => decide (c.length < d.2.length) && allK c d.2 && allK d.2 h) d = false) ∧ Kept w wr) (fun i _ => l.length - (intOf i).toNat)
  case atStart => exact ⟨0, by omega, rfl, fun j d hj => by omega, But.refl _ _ _⟩
  case round =>
    obtain ⟨k, hk, rfl, HB, hkp⟩ := hrel
    by_cases hlt : k < l.length
    · obtain ⟨d, hd⟩ : ∃ p, l[k]? = some p := ⟨_, List.getElem?_eq_getElem hlt⟩
      obtain ⟨b, o, cap', s, ee, c0, c1, hka⟩ := (hv.kept hkp).get hd
      cases ee
      have hsz := hs d (List.mem_of_getElem? hd)
      have HP : Hid (l[k]? = some d) := hd
      have HK : Hid (Kept w wr) := hkp
      obtain ⟨d0, d1⟩ := d
      dsimp only at c0 c1 hka hsz
      obtain ⟨a3, p3, hsl⟩ := row_nil hka
      subst hsl
      have HN : Hid (NumAt wr (.slice a3 d1.length p3) d1) := hka
      obtain ⟨q, hq⟩ : ∃ q, (fun d : BindD => decide (c.length < d.2.length) && allK c d.2 && allK d.2 h) (d0, d1) = q := ⟨_, rfl⟩
      have CC : Hid (Calls Try.prog 90 #[.agg #[.string d0, .slice a3 d1.length p3], .pointer (some ⟨x, 0, none⟩), .pointer (some ⟨y, 0, none⟩)] wr fun e w' => e = .returned (.bool q) ∧ Kept wr w') := by
        rw [← hq]
        exact imean1 d0 d1 c h a3 p3 x y mb n s wr HN.out (Kept.cell HK.out hx) (hc.kept HK.out) (Kept.cell HK.out hy) (hm.kept HK.out) (bnd_key hb HP.out).1 hcn (bnd_key hb HP.out).2
      have HQ : Hid ((fun d : BindD => decide (c.length < d.2.length) && allK c d.2 && allK d.2 h) (d0, d1) = q) := hq
      clear hd hka hkp hv hq
      cases q with
      | true =>
        repeat (first | (go_at_call 90; refine CC.out.mono ?_; rintro e w4 ⟨rfl, k4⟩; dsimp only) | go_values | go_skip | go_guarded | go_step | go_upon)
        go_ret
        exact ⟨ret_intG (by rw [idx_yes HB.out HP.out HQ.out]; rfl), HK.out.trans k4⟩
      | false =>
        repeat (first | (go_at_call 90; refine CC.out.mono ?_; rintro e w4 ⟨rfl, k4⟩; dsimp only) | go_values | go_skip | go_guarded | go_step | go_upon)
        exact ⟨⟨k + 1, hlt, by go_num, idx_more HB.out HP.out HQ.out, HK.out.trans k4⟩, by simp [intOf]; omega⟩
    · have hke : k = l.length := by omega
      subst hke
      have HK : Hid (Kept w wr) := hkp
      clear hkp
      go_wp2
      go_ret
      exact ⟨ret_intG (by rw [idx_no HB.out]; rfl), HK.out⟩
theorem mea_any (l : List BindD) (c h : List Int) (x y mb n : Nat) (s : Value) (v : Value) (w : World) (hv : BindsAt w v l) (hn : l.length ≤ 1048576) (hs : ∀ d ∈ l, d.2.length ≤ 1048576) (hx : w.cell? ⟨x, 0, none⟩ = some s) (hc : NumAt w s c) (hy : w.cell? ⟨y, 0, none⟩ = some (.map (some mb))) (hm : KeysM w mb n h) (hb : BindsP l) (hcn : c.length ≤ 4) :
    Calls Try.prog 89 #[v, .func (.func 90) #[] #[.pointer (some ⟨x, 0, none⟩), .pointer (some ⟨y, 0, none⟩)]] w fun e w' => e = .returned (.bool (l.any (fun d : BindD => decide (c.length < d.2.length) && allK c d.2 && allK d.2 h))) ∧ Kept w w' := by
  have HI : Hid (Calls Try.prog 111 #[v, .func (.func 90) #[] #[.pointer (some ⟨x, 0, none⟩), .pointer (some ⟨y, 0, none⟩)]] w fun e w' => e = .returned (.int .i64 (ixI (l.findIdx? (fun d : BindD => decide (c.length < d.2.length) && allK c d.2 && allK d.2 h)))) ∧ Kept w w') := mea_idx l c h x y mb n s v w hv hn hs hx hc hy hm hb hcn
  obtain ⟨ao, cap, hsl⟩ := hv.form
  subst hsl
  rw [← idx_any, ← ix_pos]
  go_enter Try.func89, Try.ntmps89
  repeat (first | (go_at_call 111; refine HI.out.mono ?_; rintro e w4 ⟨rfl, k4⟩; dsimp only) | go_values | go_skip | go_guarded | go_step | go_upon)
  go_ret
  exact ⟨rfl, k4⟩

theorem onB_eq (l : List BindD) (h : List Int) (d : BindD) : onB l h d = (allK d.2 h && !(l.any fun o : BindD => decide (d.2.length < o.2.length) && allK d.2 o.2 && allK o.2 h)) := by
  unfold onB
  congr 2
  congr 1
  funext o
  rw [Bool.and_assoc, Bool.and_assoc, Bool.and_comm (allK o.2 h)]
set_option maxHeartbeats 4000000 in
theorem imean (l : List BindD) (d : BindD) (h : List Int) (b n : Nat) (v s : Value) (w : World) (hv : BindsAt w v l) (hc : NumAt w s d.2) (hm : KeysM w b n h) (hb : BindsP l) (hd : d ∈ l) :
    Calls Try.prog 49 #[.map (some b), v, s] w fun e w' => e = .returned (.bool (onB l h d)) ∧ Kept w w' := by
  obtain ⟨i, hi⟩ := List.mem_iff_getElem?.1 hd
  obtain ⟨hk1, hk2⟩ := bnd_key hb hi
  obtain ⟨nm, c⟩ := d
  dsimp only at hc hk1 hk2
  obtain ⟨ao, cap, hsl⟩ := hv.form
  subst hsl
  obtain ⟨a4, p4, hsl⟩ := row_nil hc
  subst hsl
  have hl20 := hb.1
  have hs : ∀ d ∈ l, d.2.length ≤ 1048576 := fun d hd => by
    obtain ⟨i, hi⟩ := List.mem_iff_getElem?.1 hd
    have := (bnd_key hb hi).1
    omega
  rw [onB_eq]
  dsimp only
  have HH : Hid (∀ W, Kept w W → Calls Try.prog 88 #[.map (some b), .slice a4 c.length p4] W fun e w' => e = .returned (.bool (allK c h)) ∧ Kept W w') := fun W k => ihasall c h b n _ W (hm.kept k) (hc.kept k) hk2 (by omega)
  have HA : Hid (∀ W, Kept ((w.alloc (.cells #[.map (some b)] 78)).alloc (.cells #[.slice a4 c.length p4] 39)) W → Calls Try.prog 89 #[.slice ao l.length cap, .func (.func 90) #[] #[.pointer (some ⟨w.heap.size + 1, 0, none⟩), .pointer (some ⟨w.heap.size, 0, none⟩)]] W fun e w' => e = .returned (.bool (l.any fun o : BindD => decide (c.length < o.2.length) && allK c o.2 && allK o.2 h)) ∧ Kept W w') := fun W k => by
    have k' : Kept w W := (((But.refl _ _ w).alloc _).alloc _).trans k
    have x1 := ((Loc.new (w.alloc (.cells #[.map (some b)] 78)) [.slice a4 c.length p4] 39).kept k).cell 0 rfl
    have x2 := (((Loc.new w [.map (some b)] 78).alloc (.cells #[.slice a4 c.length p4] 39)).kept k).cell 0 rfl
    simp only [World.size_alloc] at x1
    exact mea_any l c h (w.heap.size + 1) w.heap.size b n _ _ W (hv.kept k') (by omega) hs x1 (hc.kept k') x2 (hm.kept k') hb hk1
  clear hv hc hm hs hk2
  generalize (l.any fun o : BindD => decide (c.length < o.2.length) && allK c o.2 && allK o.2 h) = q2 at *
  generalize allK c h = q1 at *
  cases q1 with
  | false =>
    go_enter Try.func49, Try.ntmps49
    repeat (first | (go_at_call 88; refine (HH.out _ (((But.refl _ _ w).alloc _).alloc _)).mono ?_; rintro e w4 ⟨rfl, k4⟩; dsimp only) | go_values | go_skip | go_guarded | go_step | go_upon)
    go_ret
    exact ⟨rfl, (((But.refl _ _ _).alloc _).alloc _).trans k4⟩
  | true =>
    go_enter Try.func49, Try.ntmps49
    repeat (first | (go_at_call 88; refine (HH.out _ (((But.refl _ _ w).alloc _).alloc _)).mono ?_; rintro e w4 ⟨rfl, k4⟩; dsimp only) | (go_at_call 89; refine (HA.out w4 k4).mono ?_; rintro e w5 ⟨rfl, k5⟩; dsimp only) | go_values | go_skip | go_guarded | go_step | go_upon)
    go_ret
    exact ⟨rfl, (((But.refl _ _ _).alloc _).alloc _).trans (k4.trans k5)⟩

end Go.Proofs.Ythkfpbknfjapaaa
