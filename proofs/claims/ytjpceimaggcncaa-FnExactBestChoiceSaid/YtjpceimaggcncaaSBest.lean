/-
  The choice that is worth most: in the specification.
-/
import Derived.Test.YtjpceimaggcncaaBest
namespace Go.Proofs.Ytjpceimaggcncaa
open Go.ChangeShapes Go.WideShapes Go.ChangeAt Go.RowKit Plain
set_option maxRecDepth 100000
set_option linter.unusedVariables false

theorem held_first {m0 : Int} {s : Option (Int × Int)} {b m x : Int} (h : Held m0 0 s b m) : stepB 0 s x = (0, x) := by
  cases s with
  | none => rfl
  | some t => have := h.1; omega
theorem worth_bad {nm : ByteArray} {ns : List Int} {be : Int} (h : ¬ (nameB nm = true ∧ 1 ≤ ns.length ∧ ns.length ≤ 8 ∧ -65536 ≤ be ∧ be ≤ 65536)) : worth (nm, ns, be) = none := by
  unfold worth
  rw [if_neg h]
theorem worth_run {nm : ByteArray} {ns : List Int} {be : Int} (h : nameB nm = true ∧ 1 ≤ ns.length ∧ ns.length ≤ 8 ∧ -65536 ≤ be ∧ be ≤ 65536) : worth (nm, ns, be) = (wrun 65536 ns).map (· + be) := by
  unfold worth
  rw [if_pos h]

set_option maxHeartbeats 8000000 in
theorem sBest (ps : List ChoiceE) (v : Value) (w : World) (hv : ChoiceAt w v ps) (hn : ps.length ≤ 1048576) (hq : ∀ p ∈ ps, p.1.size ≤ 1048576 ∧ p.2.1.2.length ≤ 1048576) :
    Calls Try.prog 34 #[v] w fun e w' => e = .returned (.tuple #[.int .i64 (bestA (ps.map stripChoice)).1, .bool (bestA (ps.map stripChoice)).2]) ∧ Kept w w' := by
  obtain ⟨ao, cap, hsl⟩ := row_nil hv.1
  subst hsl
  by_cases hc : 1 ≤ ps.length ∧ ps.length ≤ 12
  · have d1 : decide ((ps.length : Int) < 1) = false := by simp; omega
    have d2 : decide ((12 : Int) < (ps.length : Int)) = false := by simp; omega
    obtain ⟨cs, hcs⟩ : ∃ cs, ps.map stripChoice = cs := ⟨_, rfl⟩
    have hcl : cs.length = ps.length := by rw [← hcs]; simp
    rw [hcs]
    go_enter Try.func34, Try.ntmps34
    go_wp2
    clear d1 d2
    go_loopw [4, 5, 21] (fun bv mv i wr => ∃ (k : Nat) (b m : Int) (s : Option (Int × Int)), k ≤ ps.length ∧ bv = .int .i64 b ∧ mv = .int .i64 m ∧ i = .int .i64 k ∧ runB 0 none (cs.take k) = some s ∧ Held 0 k s b m ∧ Kept w wr) (fun _ _ i _ => ps.length - (intOf i).toNat)
    case atStart => exact ⟨0, 0, _, none, by omega, rfl, rfl, rfl, by simp [runB], ⟨rfl, rfl, rfl⟩, But.refl _ _ _⟩
    case round =>
      obtain ⟨k, b, m, s, hk, rfl, rfl, rfl, hr, hh, hkp⟩ := hrel
      by_cases hlt : k < ps.length
      · obtain ⟨p, hp⟩ : ∃ p, ps[k]? = some p := ⟨_, List.getElem?_eq_getElem hlt⟩
        have hkc : cs[k]? = some (stripChoice p) := by rw [← hcs]; simp [hp]
        have HN : Hid _ := best_next hkc hr
        obtain ⟨g, o, cap', e, c0, c1, c2, hpa⟩ := choice_get (hv.kept hkp) hp
        cases e
        have hpq := hq p (List.mem_of_getElem? hp)
        have HH : Hid (Held 0 k s b m) := hh
        have HK : Hid (Kept w wr) := hkp
        clear hr hh hkp hp hkc hcs
        obtain ⟨nm, ⟨sv, ns⟩, be⟩ := p
        dsimp only [stripChoice] at HN
        dsimp only at hpa hpq c0 c1 c2
        obtain ⟨ao3, cap3, hsl3⟩ := row_nil hpa
        subst hsl3
        have HP : Hid (NumAt wr (.slice ao3 ns.length cap3) ns) := hpa
        clear hpa
        cases hn1 : nameB nm
        · have HW : Hid (worth (nm, ns, be) = none) := worth_bad (by rw [hn1]; simp)
          go_wp2_with (first | (go_at_call 55; refine (sname _ _ hpq.1).mono ?_; rw [hn1]; rintro e w' ⟨rfl, rfl⟩))
          have hN := HN.out
          rw [show worth (nm, ns, be) = none from HW.out] at hN
          rw [bestA_stop (k := k + 1) hN]
          refine bodyPost_ret (v := .tuple #[.int .i64 0, .bool false]) (by simp [results, Try.results34, go_sem]) rfl ?_
          exact ⟨rfl, HK.out.trans ((But.refl _ _ _).alloc _)⟩
        by_cases h1 : (ns.length : Int) < 1
        · have e1 : decide ((ns.length : Int) < 1) = true := by simpa using h1
          have HW : Hid (worth (nm, ns, be) = none) := worth_bad (by omega)
          go_wp2_with (first | (go_at_call 55; refine (sname _ _ hpq.1).mono ?_; rw [hn1]; rintro e w' ⟨rfl, rfl⟩))
          have hN := HN.out
          rw [show worth (nm, ns, be) = none from HW.out] at hN
          rw [bestA_stop (k := k + 1) hN]
          refine bodyPost_ret (v := .tuple #[.int .i64 0, .bool false]) (by simp [results, Try.results34, go_sem]) rfl ?_
          exact ⟨rfl, HK.out.trans ((But.refl _ _ _).alloc _)⟩
        have e1 : decide ((ns.length : Int) < 1) = false := by simpa using h1
        by_cases h2 : (8 : Int) < (ns.length : Int)
        · have e2 : decide ((8 : Int) < (ns.length : Int)) = true := by simpa using h2
          have HW : Hid (worth (nm, ns, be) = none) := worth_bad (by omega)
          go_wp2_with (first | (go_at_call 55; refine (sname _ _ hpq.1).mono ?_; rw [hn1]; rintro e w' ⟨rfl, rfl⟩))
          have hN := HN.out
          rw [show worth (nm, ns, be) = none from HW.out] at hN
          rw [bestA_stop (k := k + 1) hN]
          refine bodyPost_ret (v := .tuple #[.int .i64 0, .bool false]) (by simp [results, Try.results34, go_sem]) rfl ?_
          exact ⟨rfl, HK.out.trans ((But.refl _ _ _).alloc _)⟩
        have e2 : decide ((8 : Int) < (ns.length : Int)) = false := by simpa using h2
        by_cases h3 : -65536 ≤ be ∧ be ≤ 65536
        · have db : decide (-65536 ≤ be ∧ be ≤ 65536) = true := by simpa using h3
          have HWR : Hid (worth (nm, ns, be) = (wrun 65536 ns).map (· + be)) := worth_run ⟨hn1, by omega, by omega, h3⟩
          go_wp2_with (first | (go_at_call 55; refine (sname _ _ hpq.1).mono ?_; rw [hn1]; rintro e w' ⟨rfl, rfl⟩) | (go_at_call 56; refine (sIn _ _ _ _).mono ?_; rw [db]; rintro e w' ⟨rfl, rfl⟩))
          have HA : Hid (NumAt (wr.alloc (.cells #[.string nm, .slice ao3 ns.length cap3, .int .i64 be] 95)) (.slice ao3 ns.length cap3) ns) := HP.out.kept ((But.refl _ _ _).alloc _)
          have l0 : (wr.alloc (.cells #[.string nm, .slice ao3 ns.length cap3, .int .i64 be] 95)).cell? ⟨wr.heap.size, 2, none⟩ = some (.int .i64 be) := by simp [go_sem]
          clear c0 c1 c2 e1 e2 db hn1
          go_loopw [8, 51] (fun x i wz => ∃ (j : Nat) (t : Int), j ≤ ns.length ∧ x = .int .i64 t ∧ i = .int .i64 j ∧ wrun 65536 (ns.take j) = some t ∧ Kept (wr.alloc (.cells #[.string nm, .slice ao3 ns.length cap3, .int .i64 be] 95)) wz) (fun _ i _ => ns.length - (intOf i).toNat)
          case atStart => exact ⟨0, 65536, by omega, rfl, rfl, by simp [wrun], But.refl _ _ _⟩
          case round =>
            obtain ⟨j, t, hj, rfl, rfl, hwr, hkz⟩ := hrel
            have HR : Hid (wrun 65536 (ns.take j) = some t) := hwr
            clear hwr
            by_cases hjt : j < ns.length
            · obtain ⟨q, hi⟩ : ∃ i, ns[j]? = some i := ⟨_, List.getElem?_eq_getElem hjt⟩
              obtain ⟨g2, o2, cap1, e, e0⟩ := num_get (HA.out.kept hkz) hi
              cases e
              have HM : Hid (wrun 65536 (ns.take (j + 1)) = if unitB q = true then some (mulM t q) else none) := by
                show wrun 65536 (ns.take (j + 1)) = _
                rw [take_snoc hi, wrun_snoc, HR.out]
                rfl
              by_cases hu : 0 ≤ q ∧ q ≤ 65536
              · have du : decide (0 ≤ q ∧ q ≤ 65536) = true := by simpa using hu
                have hub : unitB q = true := by simp [unitB, hu]
                go_wp2_with (first | (go_at_call 56; refine (sIn _ _ _ _).mono ?_; rw [du]; rintro e w' ⟨rfl, rfl⟩) | (go_at_call 63; refine (smul_any _ _ _).mono ?_; rintro e w2 ⟨rfl, g9⟩))
                have hM := HM.out
                rw [hub] at hM
                exact ⟨⟨j + 1, mulM t q, hjt, rfl, by go_num, hM, hkz.trans (kept_of_grown g9)⟩, by simp [intOf]; omega⟩
              · have du : decide (0 ≤ q ∧ q ≤ 65536) = false := by simpa using hu
                have hub : unitB q = false := Bool.eq_false_iff.2 fun h9 => hu (by simpa [unitB] using h9)
                have HW : Hid (worth (nm, ns, be) = none) := by
                  show worth (nm, ns, be) = none
                  have hM := HM.out
                  rw [hub] at hM
                  have h9 := wrun_none 65536 (ns.take (j + 1)) (ns.drop (j + 1)) hM
                  rw [List.take_append_drop] at h9
                  rw [HWR.out, h9]
                  rfl
                go_wp2_with (first | (go_at_call 56; refine (sIn _ _ _ _).mono ?_; rw [du]; rintro e w' ⟨rfl, rfl⟩))
                have hN := HN.out
                rw [show worth (nm, ns, be) = none from HW.out] at hN
                rw [bestA_stop (k := k + 1) hN]
                refine bodyPost_ret (v := .tuple #[.int .i64 0, .bool false]) (by simp [results, Try.results34, go_sem]) rfl ?_
                exact ⟨rfl, (HK.out.trans ((But.refl _ _ _).alloc _)).trans hkz⟩
            · have hje : j = ns.length := by omega
              subst hje
              have hwr := HR.out
              rw [List.take_length] at hwr
              have hbd := wrun_bd hwr (by omega)
              have HW : Hid (worth (nm, ns, be) = some (t + be)) := by
                show worth (nm, ns, be) = _
                rw [HWR.out, hwr]
                rfl
              clear hwr HR HWR
              have l1 := Kept.cell hkz l0
              have HKZ : Hid _ := (HK.out.trans ((But.refl _ _ _).alloc _)).trans hkz
              clear hkz l0
              by_cases hk0 : k = 0
              · subst hk0
                go_wp2
                have hN := HN.out
                rw [HW.out] at hN
                simp only [Option.map_some, held_first HH.out] at hN
                exact ⟨⟨0 + 1, _, _, _, hlt, rfl, rfl, by go_num, hN, held_next, HKZ.out⟩, by simp [intOf]; omega⟩
              · have dk : ((k : Int) == 0) = false := by simp; omega
                have hN := HN.out
                rw [HW.out] at hN
                have hs := held_step HH.out (x := t + be) (fun h => absurd h hk0)
                have HS : Hid _ := hs
                have HN2 : Hid _ := hN
                clear hs hN HN HH HW
                by_cases hmx : m < t + be
                · go_wp2
                  have hN := HN2.out
                  have hs := HS.out
                  rw [if_pos hmx] at hs
                  simp only [Option.map_some, hs] at hN
                  exact ⟨⟨k + 1, _, _, _, hlt, rfl, rfl, by go_num, hN, held_next, HKZ.out⟩, by simp [intOf]; omega⟩
                · go_wp2
                  have hN := HN2.out
                  have hs := HS.out
                  rw [if_neg hmx] at hs
                  simp only [Option.map_some, hs] at hN
                  exact ⟨⟨k + 1, _, _, _, hlt, rfl, rfl, by go_num, hN, held_next, HKZ.out⟩, by simp [intOf]; omega⟩
        · have db : decide (-65536 ≤ be ∧ be ≤ 65536) = false := by simpa using h3
          have HW : Hid (worth (nm, ns, be) = none) := worth_bad (fun h => h3 ⟨h.2.2.2.1, h.2.2.2.2⟩)
          go_wp2_with (first | (go_at_call 55; refine (sname _ _ hpq.1).mono ?_; rw [hn1]; rintro e w' ⟨rfl, rfl⟩) | (go_at_call 56; refine (sIn _ _ _ _).mono ?_; rw [db]; rintro e w' ⟨rfl, rfl⟩))
          have hN := HN.out
          rw [show worth (nm, ns, be) = none from HW.out] at hN
          rw [bestA_stop (k := k + 1) hN]
          refine bodyPost_ret (v := .tuple #[.int .i64 0, .bool false]) (by simp [results, Try.results34, go_sem]) rfl ?_
          exact ⟨rfl, HK.out.trans ((But.refl _ _ _).alloc _)⟩
      · have hke : k = ps.length := by omega
        subst hke
        rw [← hcl, List.take_length] at hr
        rw [← hcl] at hh hc
        have HE : Hid _ := held_end hc hr hh
        clear hr hh
        go_wp2
        rw [HE.out]
        refine bodyPost_ret (v := .tuple #[.int .i64 b, .bool true]) (by simp [results, Try.results34, go_sem]) rfl ?_
        exact ⟨rfl, hkp⟩
  · rw [bestA_no (by simpa using hc)]
    by_cases h1 : (ps.length : Int) < 1
    · have d1 : decide ((ps.length : Int) < 1) = true := by simpa using h1
      go_enter Try.func34, Try.ntmps34
      go_wp2
      refine bodyPost_ret (v := .tuple #[.int .i64 0, .bool false]) (by simp [results, Try.results34, go_sem]) rfl ?_
      exact ⟨rfl, But.refl _ _ _⟩
    · have d1 : decide ((ps.length : Int) < 1) = false := by simpa using h1
      have d2 : decide ((12 : Int) < (ps.length : Int)) = true := by simp; omega
      go_enter Try.func34, Try.ntmps34
      go_wp2
      refine bodyPost_ret (v := .tuple #[.int .i64 0, .bool false]) (by simp [results, Try.results34, go_sem]) rfl ?_
      exact ⟨rfl, But.refl _ _ _⟩
end Go.Proofs.Ytjpceimaggcncaa
