/-
  Keys that are down in a map.
-/
import Derived.Test.YthkfpbknfjapaaaMapP17
import Derived.Test.YthkfpbknfjapaaaClone17
import Derived.Maps.OwnSet
import Derived.Carry
namespace Go.Proofs.Ythkfpbknfjapaaa
open Go.ChangeShapes Go.WideShapes Go.ChangeAt Go.RowKit

set_option maxRecDepth 100000
set_option linter.unusedVariables false

open Go.Maps
/-- The keys that are down, as a map. -/
def KeysM (w : World) (b n : Nat) (h : List Int) : Prop := ∃ D : DataW Unit, w.ownsMap Try.prog 3 unitElem b n D ∧ ∀ k : Int, (Lit.int .i64 k).wf = true → Maps.has D (.int .i64 k) = decide (k ∈ h)
theorem KeysM.lt {w : World} {b n : Nat} {h : List Int} (k : KeysM w b n h) : b < w.heap.size := by
  obtain ⟨D, ho, _⟩ := k
  exact ho.lt
theorem KeysM.but {w w' : World} {b n lo hi : Nat} {h : List Int} (k : KeysM w b n h) (q : But lo hi w w') (ho : b < lo ∨ hi ≤ b) : KeysM w' b n h := by
  have hb := k.lt
  obtain ⟨D, ⟨es, clock, h1, F, hs, hD⟩, hm⟩ := k
  exact ⟨D, ⟨es, clock, (q.block b hb ho).trans h1, F, hs, hD⟩, hm⟩
theorem KeysM.kept {w w' : World} {b n : Nat} {h : List Int} (k : KeysM w b n h) (q : Kept w w') : KeysM w' b n h := k.but q (by omega)
theorem KeysM.mono {w : World} {b n n' : Nat} {h : List Int} (k : KeysM w b n h) (hn : n ≤ n') : KeysM w b n' h := by
  obtain ⟨D, ho, hm⟩ := k
  exact ⟨D, ho.mono hn, hm⟩
theorem KeysM.made (w : World) : KeysM (w.alloc (.map #[] 0)) w.heap.size 0 [] := ⟨.map [], World.ownsMap_made w _ _ _, fun k _ => by simp [Maps.has]⟩
theorem turned_but {w w' : World} {b : Nat} (h : w.mapTurned w' b) : But b (b + 1) w w' := (But.refl _ _ w).grown h.grown (fun k e => by cases e; exact .inr ⟨Nat.le_refl _, by omega⟩)
theorem lit_wf {x : Int} (h1 : 0 ≤ x) (h2 : x ≤ 99) : (Lit.int .i64 x).wf = true := by
  have a1 : IntKind.i64.min = -9223372036854775808 := by decide
  have a2 : IntKind.i64.max = 9223372036854775807 := by decide
  simp only [Lit.wf, a1, a2, Bool.and_eq_true, decide_eq_true_eq]
  omega
theorem zero_unit (w : World) : (zeroValue 109).run Try.prog w = .ok (.agg #[]) w := by kernel_rfl
set_option maxHeartbeats 4000000 in
theorem ihear (h : List Int) (t0 ky : Int) (dn : Bool) (b n : Nat) (w : World) (hm : KeysM w b n h) (h1 : 0 ≤ ky) (h2 : ky ≤ 99) (hn : n ≤ 1000000) :
    Calls Try.prog 48 #[.map (some b), .agg #[.int .i64 t0, .int .i64 ky, .bool dn]] w fun e w' => e = .returned (.tuple #[]) ∧ KeysM w' b (n + 1) (pressL h (t0, ky, dn)) ∧ But b (b + 1) w w' := by
  have hbl := hm.lt
  obtain ⟨D, hown, hhas⟩ := hm
  have hown1 : (w.alloc (.cells #[.int .i64 t0, .int .i64 ky, .bool dn] 82)).ownsMap Try.prog 3 unitElem b n D := hown.alloc _
  have hkey : keyOf Try.prog 3 (.int .i64 ky) = some (.int .i64 ky) := keyOf_int_mk Try.underlying3 (lit_wf h1 h2)
  have K0 : But b (b + 1) w (w.alloc (.cells #[.int .i64 t0, .int .i64 ky, .bool dn] 82)) := (But.refl _ _ _).alloc _
  have hmap := hown.isMap
  have hne : ∀ {k : Int}, k ≠ ky → (Lit.int .i64 k) ≠ .int .i64 ky := fun {k} hk e => hk (by injection e)
  cases dn with
  | true =>
    go_enter Try.func48, Try.ntmps48
    repeat (first
      | (at_mapUpdate; refine wpList_mapUpdate_in _ rfl _ _ _ 78 rfl 3 109 (int_keyed Try.underlying3) Try.underlying78 unitElem b n D rfl hown1 (by unfold maxLen; omega) (.int .i64 ky) (.agg #[]) (.int .i64 ky) rfl rfl hkey (.agg []) [] unitElem_mk ?_; intro w2 ho2 ht2)
      | go_values | go_skip | go_guarded | go_step | go_upon)
    refine bodyPost_end (results_none rfl _ _ _) rfl ?_
    refine ⟨rfl, ⟨_, ho2, fun k hk => ?_⟩, K0.trans (turned_but ht2)⟩
    have hp := mem_press h t0 ky true k
    simp only [if_true] at hp
    by_cases e : k = ky
    · subst e
      rw [has_put_same hmap (show WideAt.IsKeyLit (.int .i64 k) from trivial), decide_eq_true (hp.2 (.inl rfl))]
    · rw [has_put_other (hne e), hhas k hk]
      congr 1
      exact propext ⟨fun h => hp.2 (.inr h), fun h => (hp.1 h).resolve_left e⟩
  | false =>
    go_enter Try.func48, Try.ntmps48
    repeat (first
      | (at_delete; refine wpList_delete_own _ rfl _ _ 78 3 rfl 109 (int_keyed Try.underlying3) Try.underlying78 unitElem b n D rfl hown1 (.int .i64 ky) (.int .i64 ky) rfl hkey ?_; intro w2 ho2 ht2)
      | go_values | go_skip | go_guarded | go_step | go_upon)
    refine bodyPost_end (results_none rfl _ _ _) rfl ?_
    refine ⟨rfl, ⟨_, ho2.mono (by omega), fun k hk => ?_⟩, K0.trans (turned_but ht2)⟩
    have hp := mem_press h t0 ky false k
    simp only [Bool.false_eq_true, if_false] at hp
    by_cases e : k = ky
    · subst e
      rw [has_del_same, decide_eq_false (fun h => (hp.1 h).2 rfl)]
    · rw [has_del_other (hne e), hhas k hk]
      congr 1
      exact propext ⟨fun h => hp.2 ⟨h, e⟩, fun h => (hp.1 h).1⟩
set_option maxHeartbeats 4000000 in
theorem ihasall (c h : List Int) (b n : Nat) (v : Value) (w : World) (hm : KeysM w b n h) (hv : NumAt w v c) (hk : ∀ k ∈ c, 0 ≤ k ∧ k ≤ 99) (hn : c.length ≤ 1048576) :
    Calls Try.prog 88 #[.map (some b), v] w fun e w' => e = .returned (.bool (allK c h)) ∧ Kept w w' := by
  obtain ⟨ao, cap, hsl⟩ := row_nil hv
  subst hsl
  go_enter Try.func88, Try.ntmps88
  repeat (first | go_values | go_skip | go_guarded | go_step | go_upon)
  go_loopw [11] (fun i wr => ∃ (k : Nat), k ≤ c.length ∧ i = .int .i64 k ∧ Hid (∀ j x, j < k → c[j]? = some x → x ∈ h) ∧ Kept w wr) (fun i _ => c.length - (intOf i).toNat)
  case atStart => exact ⟨0, by omega, rfl, fun j x hj => by omega, But.refl _ _ _⟩
  case round =>
    obtain ⟨k, hk2, rfl, HB, hkp⟩ := hrel
    by_cases hlt : k < c.length
    · obtain ⟨p, hp⟩ : ∃ p : Int, c[k]? = some p := ⟨_, List.getElem?_eq_getElem hlt⟩
      obtain ⟨g, o, cap1, ee, c0⟩ := num_get (hv.kept hkp) hp
      cases ee
      have hpk := hk p (List.mem_of_getElem? hp)
      have hkey : keyOf Try.prog 3 (.int .i64 p) = some (.int .i64 p) := keyOf_int_mk Try.underlying3 (lit_wf hpk.1 hpk.2)
      obtain ⟨D, hown, hhas⟩ := hm.kept hkp
      have hq := hhas p (lit_wf hpk.1 hpk.2)
      have HK : Hid (Kept w wr) := hkp
      have HP : Hid (c[k]? = some p) := hp
      clear hkp hp hhas hv hk
      by_cases hin : p ∈ h
      · have hq : Maps.has D (.int .i64 p) = true := by rw [hq]; exact decide_eq_true hin
        repeat (first
          | (at_lookup; refine wpList_lookup_own_unit _ rfl _ _ 78 rfl 3 109 (int_keyed Try.underlying3) Try.underlying78 (zero_unit _) b n D rfl hown (.int .i64 p) (.int .i64 p) rfl hkey ?_; rw [hq])
          | go_values | go_skip | go_guarded | go_step | go_upon)
        refine ⟨⟨k + 1, hlt, by go_num, (fun j x hj hx => ?_), HK.out.alloc _⟩, by simp [intOf]; omega⟩
        by_cases e : j = k
        · subst e
          rw [HP.out] at hx
          cases hx
          exact hin
        · exact HB.out j x (by omega) hx
      · have hq : Maps.has D (.int .i64 p) = false := by rw [hq]; exact decide_eq_false hin
        repeat (first
          | (at_lookup; refine wpList_lookup_own_unit _ rfl _ _ 78 rfl 3 109 (int_keyed Try.underlying3) Try.underlying78 (zero_unit _) b n D rfl hown (.int .i64 p) (.int .i64 p) rfl hkey ?_; rw [hq])
          | go_values | go_skip | go_guarded | go_step | go_upon)
        go_ret
        exact ⟨ret_boolG (allK_no HP.out hin).symm, HK.out.alloc _⟩
    · have hke : k = c.length := by omega
      subst hke
      have HK : Hid (Kept w wr) := hkp
      clear hkp
      go_wp2
      go_ret
      exact ⟨ret_boolG (allK_yes HB.out).symm, HK.out⟩

end Go.Proofs.Ythkfpbknfjapaaa
