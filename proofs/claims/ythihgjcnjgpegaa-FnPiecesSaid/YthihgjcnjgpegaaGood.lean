/-
  What the program's GoodClock answers.
-/
import Derived.Test.YthihgjcnjgpegaaGood0
namespace Go.Proofs.Ythihgjcnjgpegaa
open Go.ChangeShapes Go.WideShapes Go.ChangeAt Go.RowKit

set_option maxRecDepth 100000
set_option maxHeartbeats 4000000 in
theorem implGood (c : ClockD) (v : Value) (w : World) (hv : ClockAt w v c) :
    Calls Try.prog 18 #[v] w fun e w' => e = .returned (.bool (goodC c)) ∧ Kept w w' := by
  obtain ⟨ao, cap, hfm⟩ := hv.form
  subst hfm
  have hr := hv.row
  obtain ⟨now, l⟩ := c
  dsimp only at *
  cases q1 : inB now 0 100000 with
  | false =>
    go_enter Try.func18, Try.ntmps18
    repeat (first | (go_at_call 49; refine (goodTime _ _).mono ?_; rintro e w' ⟨rfl, rfl⟩; rw [q1]; dsimp only) | go_values | go_skip | go_guarded | go_step | go_upon)
    go_ret
    exact ⟨ret_bool (by simp [goodC, q1]), (But.refl _ _ _).alloc _⟩
  | true =>
    by_cases hl : l.length ≤ 20
    case neg =>
      have q2 : decide (20 < (l.length : Int)) = true := by simp; omega
      go_enter Try.func18, Try.ntmps18
      repeat (first | (go_at_call 49; refine (goodTime _ _).mono ?_; rintro e w' ⟨rfl, rfl⟩; rw [q1]; dsimp only) | go_values | go_skip | go_guarded | go_step | go_upon)
      go_ret
      exact ⟨ret_bool (by simp [goodC, hl]), (But.refl _ _ _).alloc _⟩
    case pos =>
      have q2 : decide (20 < (l.length : Int)) = false := by simp; omega
      obtain ⟨G, hG⟩ : ∃ G, goodL now (-1) l = G := ⟨_, rfl⟩
      have hres : goodC (now, l) = G := by simp [goodC, q1, hl, hG]
      rw [hres]
      have HN : Hid (now ≤ 100000) := (inB_true.1 q1).2
      clear hres
      go_enter Try.func18, Try.ntmps18
      go_wp2_with (go_at_call 49; refine (goodTime _ _).mono ?_; rintro e w' ⟨rfl, rfl⟩; rw [q1])
      clear q1 q2
      go_loopw [3, 5, 19] (fun last _ i wr => ∃ k : Nat, k ≤ l.length ∧ i = .int .i64 k ∧ last = .int .i64 (lastOf l k) ∧ goodL now (lastOf l k) (l.drop k) = G ∧ Kept (w.alloc (.cells #[.int .i64 now, .slice ao l.length cap] 25)) wr) (fun _ _ i _ => l.length - (intOf i).toNat)
      case atStart => exact ⟨0, by omega, rfl, rfl, hG, But.refl _ _ _⟩
      case round =>
        obtain ⟨k, hk, rfl, rfl, hg, hkp⟩ := hrel
        have K0 : Kept w wr := ((But.refl _ _ w).alloc _).trans hkp
        by_cases hlt : k < l.length
        · obtain ⟨⟨a, b, e, d⟩, hp⟩ : ∃ p, l[k]? = some p := ⟨_, List.getElem?_eq_getElem hlt⟩
          obtain ⟨g, o, cap1, ee, c0, c1, c2, c3⟩ := timer_get (hr.kept K0) hp
          cases ee
          dsimp only at c0 c1 c2 c3
          have L0 := (Loc.new w [.int .i64 now, .slice (some ⟨g, o, none⟩) l.length cap] 25).kept hkp
          have a0 := L0.cell 0 rfl
          have hw0 := L0.lt
          rw [goodL_step hp] at hg
          have HG : Hid (_ = G) := hg
          have HK : Hid (Kept w wr) := K0
          have HKP : Hid _ := hkp
          have HP : Hid _ := hp
          clear hg K0 hkp hp L0 hG
          generalize hLs : lastOf l k = last at *
          clear hLs
          by_cases p1 : a ≤ last
          case pos =>
            have p1' : decide (a ≤ last) = true := by simpa using p1
            repeat (first | go_values | go_skip | go_guarded | go_step | go_upon)
            go_ret
            exact ⟨ret_bool (by rw [← HG.out]; simp; omega), HK.out.alloc _⟩
          case neg =>
            have p1' : decide (a ≤ last) = false := by simpa using p1
            by_cases p2 : 999 < a
            case pos =>
              have p2' : decide (999 < a) = true := by simpa using p2
              repeat (first | go_values | go_skip | go_guarded | go_step | go_upon)
              go_ret
              exact ⟨ret_bool (by rw [← HG.out]; simp; omega), HK.out.alloc _⟩
            case neg =>
              have p2' : decide (999 < a) = false := by simpa using p2
              cases p3 : waitB now (a, b, e, d) with
              | false =>
                repeat (first | (go_at_call 50; refine (mayWait _ _ _ _ _ _).mono ?_; rintro e w3 ⟨rfl, k3⟩; rw [p3]; dsimp only) | go_values | go_skip | go_guarded | go_step | go_upon)
                go_ret
                exact ⟨ret_bool (by rw [← HG.out]; simp [p3]), (HK.out.alloc _).trans k3⟩
              | true =>
                repeat (first | (go_at_call 50; refine (mayWait _ _ _ _ _ _).mono ?_; rintro e w3 ⟨rfl, k3⟩; rw [p3]; dsimp only; have hc3 := k3.cell_eq) | go_values | go_skip | go_guarded | go_step | go_upon)
                refine ⟨⟨k + 1, hlt, by go_num, ?_, ?_, ?_⟩, by simp [intOf]; omega⟩
                · rw [lastOf_succ HP.out]
                · rw [lastOf_succ HP.out, ← HG.out]
                  simp [p3]
                  omega
                · exact (HKP.out.alloc _).trans k3
        · have hke : k = l.length := by omega
          subst hke
          have HKP : Hid _ := hkp
          clear hkp
          go_wp2
          go_ret
          refine ⟨ret_bool ?_, K0⟩
          rw [← hg]
          simp [goodL]

end Go.Proofs.Ythihgjcnjgpegaa
