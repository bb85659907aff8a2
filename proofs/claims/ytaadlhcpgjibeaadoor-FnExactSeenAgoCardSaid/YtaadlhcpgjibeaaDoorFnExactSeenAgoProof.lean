/-
  At all lists of things, at every number of lists and every Id the program's SeenAgo answers what the specification's SeenAgo answers, and writes into no argument; the program's table is as the row lists it.
-/
import Derived.Test.YtaadlhcpgjibeaaDoorKit23
import Derived.Test.YtaadlhcpgjibeaaDoorTie
import Derived.Test.YtaadlhcpgjibeaaDoorCards
import Derived.Test.YtaadlhcpgjibeaaDoorSSeen23
import Derived.Test.YtaadlhcpgjibeaaDoorISeen23
import Derived.Test.YtaadlhcpgjibeaaDoorHistO
import Derived.SevenTiedAt
namespace Go.Proofs.YtaadlhcpgjibeaaDoor.fnExactSeenAgo
open Go.ChangeShapes Go.WideShapes Go.ChangeAt Go.RowKit
set_option linter.unusedVariables false

theorem var_kept {W W' : World} (hT : Tab W) (hg : Kept W W') (h : W.var? Tryd.prog "loop.example/g00064/impl.fieldWidths" = some cellsW) : W'.var? Tryd.prog "loop.example/g00064/impl.fieldWidths" = some cellsW := by
  have e := hg.block 0 hT.size (by omega)
  simp only [World.var?, gTab, Option.bind_some] at h ⊢
  rw [e]
  exact h

set_option maxRecDepth 100000 in
set_option maxHeartbeats 16000000 in
theorem walk (l : List (List ThingD)) (ago id : Int) (jx jy jt jf : Int) (jb : Bool) (v : Value) (w : World) (hT : Tab w) (hv : HistAt w v l) (hn : l.length ≤ 9223372036854775807) (hq : HistFit l) (hl : histCost l ≤ 1048576)
    (hS : ∀ (u : World) (v : Value), Tab u → HistAt u v l → Calls Tryd.prog 34 #[v, .int .i64 ago, .int .i64 id] u fun e u' => e = .returned (.tuple #[.agg #[.int .i64 jx, .int .i64 jy, .int .i64 jt, .int .i64 jf], .bool jb]) ∧ Kept u u')
    (hI : ∀ (u : World) (v : Value), Tab u → HistAt u v l → Calls Tryd.prog 36 #[v, .int .i64 ago, .int .i64 id] u fun e u' => e = .returned (.tuple #[.agg #[.int .i64 jx, .int .i64 jy, .int .i64 jt, .int .i64 jf], .bool jb]) ∧ Kept u u') :
    Calls Tryd.prog 8 #[v, .int .i64 ago, .int .i64 id] w fun e w' => e = .returned (.bool true) ∧ Kept w w' := by
  have hlen : l.length ≤ 1048576 := by unfold histCost at hl; omega
  have hpl : ∀ p ∈ l, p.length ≤ 1048576 := fun p hp => by have := histSum_le hp; unfold histCost at hl; omega
  have hdl : decide ((1048576 : Int) - (histCost l : Int) < 0) = false := by simp; omega
  obtain ⟨ao, cap, hfm⟩ := hv.form
  subst hfm
  have HS : Hid (∀ (u : World) (v : Value), Tab u → HistAt u v l → Calls Tryd.prog 34 #[v, .int .i64 ago, .int .i64 id] u fun e u' => e = .returned (.tuple #[.agg #[.int .i64 jx, .int .i64 jy, .int .i64 jt, .int .i64 jf], .bool jb]) ∧ Kept u u') := hS
  have HI : Hid (∀ (u : World) (v : Value), Tab u → HistAt u v l → Calls Tryd.prog 36 #[v, .int .i64 ago, .int .i64 id] u fun e u' => e = .returned (.tuple #[.agg #[.int .i64 jx, .int .i64 jy, .int .i64 jt, .int .i64 jf], .bool jb]) ∧ Kept u u') := hI
  clear hS hI
  go_enter Tryd.func8, Tryd.ntmps8
  repeat (first | go_values | go_skip | go_guarded | go_step | go_upon)
  go_at_call 33
  refine (szHist l _ _ _ hv (by omega) (by omega) hn hq).mono ?_
  rintro e u1 ⟨rfl, k1⟩
  rw [leftOf_yes (by omega)]
  dsimp only
  repeat (first | go_values | go_skip | go_guarded | go_step | go_upon)
  go_at_call 35
  refine (toHist l _ _ (hv.kept k1) hlen hpl).mono ?_
  rintro e u2 ⟨v2, rfl, o2, k2⟩
  have K2 := k1.trans k2
  obtain ⟨ao2, cap2, hfm⟩ := o2.form
  subst hfm
  dsimp only
  repeat (first | go_values | go_skip | go_guarded | go_step | go_upon)
  go_at_call 34
  refine (HS.out _ _ (hT.kept K2) o2.at).mono ?_
  rintro e u3 ⟨rfl, k3⟩
  have K3 := K2.trans k3
  clear o2
  dsimp only
  repeat (first | go_values | go_skip | go_guarded | go_step | go_upon)
  go_at_call 35
  refine (toHist l _ _ (hv.kept (K3.alloc _)) hlen hpl).mono ?_
  rintro e u4 ⟨v4, rfl, o4, k4⟩
  have K4 := (K3.alloc _).trans k4
  have L4 := (Loc.new u3 [.int .i64 jx, .int .i64 jy, .int .i64 jt, .int .i64 jf] 57).kept k4
  obtain ⟨ao4, cap4, hfm⟩ := o4.form
  subst hfm
  dsimp only
  repeat (first | go_values | go_skip | go_guarded | go_step | go_upon)
  go_at_call 36
  refine (HI.out _ _ (hT.kept K4) o4.at).mono ?_
  rintro e u5 ⟨rfl, k5⟩
  have K5 := K4.trans k5
  have o4 := o4.kept k5
  have L5 := L4.kept k5
  have a0 := L5.cell 0 rfl
  have a1 := L5.cell 1 rfl
  have a2 := L5.cell 2 rfl
  have a3 := L5.cell 3 rfl
  have hlt5 := L5.lt
  clear k1 k2 k3 k4 k5 K2 K3 K4 L4
  dsimp only
  repeat (first | go_values | go_skip | go_guarded | go_step | go_upon)
  go_at_call 37
  refine (eqThing jx jy jt jf _).mono ?_
  rintro e u6 ⟨rfl, k6⟩
  have K6 := (K5.alloc _).trans k6
  have o4 := o4.kept (((But.refl _ _ u5).alloc _).trans k6)
  dsimp only
  clear a0 a1 a2 a3 hlt5
  repeat (first | go_values | go_skip | go_guarded | go_step | go_upon)
  go_at_call 35
  refine (toHist l _ _ (hv.kept K6) hlen hpl).mono ?_
  rintro e u7 ⟨v7, rfl, o7, k7⟩
  have K7 := K6.trans k7
  obtain ⟨ao7, cap7, hfm⟩ := o7.form
  subst hfm
  dsimp only
  repeat (first | go_values | go_skip | go_guarded | go_step | go_upon)
  go_at_call 38
  refine (eqHist l _ _ _ (o4.at.kept k7) o7.at (by omega) (fun p hp => by have := hpl p hp; omega)).mono ?_
  rintro e u8 ⟨rfl, k8⟩
  have K8 := K7.trans k8
  dsimp only
  repeat (first | go_values | go_skip | go_guarded | go_step | go_upon)
  go_ret
  exact ⟨rfl, K8⟩
set_option maxRecDepth 100000 in
set_option maxHeartbeats 16000000 in
theorem big (l : List (List ThingD)) (ago id : Int) (v : Value) (w : World) (hv : HistAt w v l) (hn : l.length ≤ 9223372036854775807) (hq : HistFit l) (hl : 1048576 < histCost l) :
    Calls Tryd.prog 8 #[v, .int .i64 ago, .int .i64 id] w fun e w' => e = .returned (.bool true) ∧ Kept w w' := by
  obtain ⟨ao, cap, hfm⟩ := hv.form
  subst hfm
  go_enter Tryd.func8, Tryd.ntmps8
  repeat (first | go_values | go_skip | go_guarded | go_step | go_upon)
  go_at_call 33
  refine (szHist l _ _ _ hv (by omega) (by omega) hn hq).mono ?_
  rintro e u1 ⟨rfl, k1⟩
  rw [leftOf_no (by omega)]
  dsimp only
  repeat (first | go_values | go_skip | go_guarded | go_step | go_upon)
  go_ret
  exact ⟨rfl, k1⟩
theorem all (l : List (List ThingD)) (v : Value) {w : World} (hv : HistAt w v l) (hq : l.length ≤ 9223372036854775807 ∧ HistFit l) (ago id : Int) (ha : -9223372036854775808 ≤ ago ∧ ago ≤ 9223372036854775807) (hT : Tab w) :
    Calls Tryd.prog 8 #[v, .int .i64 ago, .int .i64 id] w fun e w' => e = .returned (.bool true) ∧ Kept w w' := by
  by_cases hl : histCost l ≤ 1048576
  · have hl1 : l.length ≤ 1048576 := by unfold histCost at hl; omega
    have hpl : ∀ p ∈ l, p.length ≤ 1048576 := fun p hp => by have := histSum_le hp; unfold histCost at hl; omega
    refine walk l ago id (seenA l ago id).1.1 (seenA l ago id).1.2.1 (seenA l ago id).1.2.2.1 (seenA l ago id).1.2.2.2 (seenA l ago id).2 v w hT hv hq.1 hq.2 hl (fun u v hT h => ?_) (fun u v hT h => ?_)
    · exact sseen l ago id v u hT h (by omega) hpl ha
    · exact iseen l ago id v u hT h (by omega) hpl ha
  · exact big l ago id v w hv hq.1 hq.2 (by omega)


set_option maxRecDepth 100000 in
theorem lifted (os : Os) (started : os.Started) (H : Type) (enc : TypeId × Value → H) :
    ReturnsInHanded {} Tryd.checked os 8 .any (fun w args => (Rows.fnExactSeenAgoSpec.pre enc Tryd.prog Tryd.f8 [] false w args ∧ laidMetH Tryd.prog laid1 w) ∧ sizedMet enc Tryd.prog Tryd.f8 (OpenSpec.ofChange Rows.fnExactSeenAgoSpec) false w args)
      (Rows.fnExactSeenAgoSpec.post enc Tryd.prog Tryd.f8 false true false false) := by
  refine returnsInHanded_of_change_and (C := Tryd.checked) (X := fun w _ => laidMetH Tryd.prog laid1 w) (fun _ _ _ hh h => h.of_heap hh) own started (by kernel_rfl) Tryd.func8
    (ChangeSpec.witness_shaped (enc := enc) (C := Tryd.checked) (os := os) (X := fun w _ => laidMetH Tryd.prog laid1 w) false (World.doorLaid Tryd.prog 400 os) #[.slice none 0 0, .int .i64 0, .int .i64 0] 8 rfl (World.shaped_of_RefB (by kernel_rfl) (by kernel_rfl)) (by kernel_rfl) (by kernel_rfl) (by kernel_rfl) (door_met os _)) ?_
  intro W base args ds gs before hval0 hW _ _ hL _
  have hval : ∀ (j : Nat) t v, Tryd.f8.params[j]? = some t → args[j]? = some v → Value.okWide Tryd.prog W .any base t v := hval0
  have hW' := hW
  obtain ⟨p, q, hA0, hV0, rfl, hfz, hnd⟩ := hW
  have hA : DataW.TrodAll enc Tryd.prog W 0 (fun _ => true) true Tryd.f8.params.toList args.toList ds p := hA0
  have hV : DataW.TrodVars enc Tryd.prog W (fun _ => true) ["loop.example/g00064/impl.fieldWidths"] gs q := hV0
  rw [Tryd.params8] at hA hval
  obtain ⟨v0, vs0, d0, ds0, p0, q0, hargs, rfl, rfl, h0, r0⟩ := trodAll_cons hA
  obtain ⟨v1, vs1, d1, ds1, p1, q1, rfl, rfl, rfl, h1, r1⟩ := trodAll_cons r0
  obtain ⟨v2, vs2, d2, ds2, p2, q2, rfl, rfl, rfl, h2, r2⟩ := trodAll_cons r1
  obtain ⟨rfl, rfl, rfl⟩ := trodAll_nil r2
  obtain rfl : args = #[v0, v1, v2] := by cases args; simp_all
  obtain ⟨c0, hv0, hl0⟩ := open_hist (hval 0 54 v0 rfl rfl) h0
  obtain ⟨a1, rfl, rfl, rfl, w1⟩ := open_int Tryd.underlying3 (hval 1 3 v1 rfl rfl) h1
  obtain ⟨a2, rfl, rfl, rfl, w2⟩ := open_int Tryd.underlying3 (hval 2 3 v2 rfl rfl) h2
  obtain ⟨g, t, cs, fuel, d, p', rfl, hg, ht, hvar, hd, rfl⟩ := trodVars_one hV
  obtain rfl := Option.some.inj (gTab.symm.trans hg)
  obtain rfl := Option.some.inj (tTab.symm.trans ht)
  have hI := tabIs_of hL
  obtain rfl : cs = cellsW := Option.some.inj (hvar.symm.trans hI)
  obtain ⟨rfl, rfl⟩ := DataW.Trod.unique (v := .agg cellsW) ⟨fuel, hd⟩ ⟨3, reads_table enc W _⟩
  have hT := Tab.of hI
  clear hA0 hV0 hval0
  refine (all c0 v0 hv0 hl0 a1 a2 (wf_bd a1 w1) hT).mono fun e W' ⟨he, hgr⟩ => ?_
  subst he
  exact ⟨_, rfl, post_of_kept hW' (fun _ _ _ => (trodAll_cons_mk (shut_bool Tryd.underlying4 _) trodAll_mk0)) (fun sp hsp => (trodAll_cons_mk (kept_trod (by kernel_rfl) (of_decide_eq_true (by kernel_rfl)) h0 hgr (fun x hx => hW'.lt x (by simp [hx])) (fun x hx => hsp x (by simp [hx]))) (trodAll_cons_mk (shut_int Tryd.underlying3 w1) (trodAll_cons_mk (shut_int Tryd.underlying3 w2) trodAll_mk0)))) (fun sp _ => vars_again (var_kept hT hgr hvar) sp) hgr⟩

theorem holds : Rows.FnExactSeenAgoSaid :=
  OpenClaim.holds_of_wide 8 Tryd.f8 rfl rfl rfl rfl rfl rfl rfl ⟨rfl, rfl, rfl, rfl, rfl⟩ rfl rfl rfl rfl rfl (by kernel_rfl) Tryd.func8 (by kernel_rfl)
    (of_decide_eq_true (by kernel_rfl)) (by unfold Func.isWrapper; first | (rw [if_pos (by decide +kernel)]; kernel_rfl) | (rw [if_neg (by decide +kernel)]; exact ⟨rfl, rfl⟩))
    (fun os started H enc _ => lifted os started H enc)

theorem proved : Rows.FnExactSeenAgoCardSaid :=
  Claim7.holds_tied_plain_at .later [] [.data] true (true, "e88eefa4a3c2a9ec6de71181edf8a09ac7d7eee333181281073f4ed70c8e8e2b") false
    holds (fun _ h => by cases h) (by kernel_rfl) (fun _ h => by cases h) fnExactSeenAgo_row_tie rfl ⟨rfl, rfl⟩ (by kernel_rfl) rfl
    (fun f fn hf hfn => by
      obtain rfl : f = 8 := Option.some.inj ((show Tryd.prog.funcNamed "loop.example/g00064/laws.FnExactSeenAgo" = some 8 by kernel_rfl).symm.trans hf) |>.symm
      obtain rfl : fn = Tryd.f8 := (Option.some.inj (Tryd.func8.symm.trans hfn)).symm
      exact ⟨by kernel_rfl, fun j t ht => by
        rw [Tryd.params8] at ht
        have hm : t ∈ [54, 3, 3] := by simpa using Array.mem_of_getElem? ht
        have hall : ([54, 3, 3].all fun u => !Tryd.prog.wantsStandIn u) = true := by kernel_rfl
        exact (show Tryd.prog.wantsStandIn t = false by simpa using List.all_eq_true.1 hall t (by simpa using hm))⟩)
    (by kernel_rfl)
#print axioms proved
end Go.Proofs.YtaadlhcpgjibeaaDoor.fnExactSeenAgo
