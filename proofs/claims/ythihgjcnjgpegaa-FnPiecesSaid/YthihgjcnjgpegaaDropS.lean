/-
  What the specification's DropTimer answers.
-/
import Derived.Test.YthihgjcnjgpegaaGoodS
import Derived.Test.YthihgjcnjgpegaaApp
namespace Go.Proofs.Ythihgjcnjgpegaa
open Go.ChangeShapes Go.WideShapes Go.ChangeAt Go.RowKit

set_option maxRecDepth 100000
/-- What is left without the timers of that Id. -/
def dropM (l : List TimerD) (id : Int) : List TimerD := l.filter fun t => !(t.1 == id)
/-- What DropTimer answers. -/
def dropA (c : ClockD) (id : Int) : ClockD × Bool := if goodC c && c.2.any (fun t => t.1 == id) then ((c.1, dropM c.2 id), true) else ((0, []), false)
theorem zero_clock (w : World) (lo hi : Nat) : ClockO w lo hi (.agg #[.int .i64 0, .slice none 0 0]) (0, []) := ⟨_, rfl, World.ownsRow_nil _ _ _ _, fun g hg => by simp [Value.ownBlock] at hg⟩

set_option maxHeartbeats 4000000 in
theorem specDrop (c : ClockD) (id : Int) (v : Value) (w : World) (hv : ClockAt w v c) :
    Calls Try.prog 25 #[v, .int .i64 id] w fun e w' => ∃ v', e = .returned (.tuple #[v', .bool (dropA c id).2]) ∧ ClockO w' w.heap.size w'.heap.size v' (dropA c id).1 ∧ Kept w w' := by
  obtain ⟨ao, cap, hfm⟩ := hv.form
  subst hfm
  have hr := hv.row
  obtain ⟨now, l⟩ := c
  dsimp only at *
  cases hg : goodC (now, l) with
  | false =>
    rw [show dropA (now, l) id = ((0, []), false) by simp [dropA, hg]]
    go_enter Try.func25, Try.ntmps25
    repeat (first | go_values | go_skip | go_guarded | go_step | go_upon)
    go_at_call 16
    refine (specGood (now, l) _ _ (hv.kept (((But.refl _ _ _).alloc _).alloc _))).mono ?_
    rintro e w1 ⟨rfl, k1⟩
    rw [hg]
    have K1 : Kept w w1 := (((But.refl _ _ _).alloc _).alloc _).trans k1
    have L0 := (Loc.alloc (Loc.new w [.int .i64 now, .slice ao l.length cap] 25) (.cells #[.int .i64 0, .slice none 0 0] 25)).kept k1
    have L1 := (Loc.new (w.alloc (.cells #[.int .i64 now, .slice ao l.length cap] 25)) [.int .i64 0, .slice none 0 0] 25).kept k1
    simp only [World.size_alloc] at L1
    have hw1 := L1.lt
    have hw0 := L0.lt
    have s0 := L0.cell 0 rfl
    have s1 := L0.cell 1 rfl
    have r0 := L1.cell 0 rfl
    have r1 := L1.cell 1 rfl
    have rf0 := L1.frozen 0
    have rf1 := L1.frozen 1
    clear k1
    dsimp only
    repeat (first | go_values | go_skip | go_guarded | go_step | go_upon)
    have B : But (w.heap.size + 1) (w.heap.size + 2) w1 ((w1.setCell ⟨w.heap.size + 1, 0, none⟩ (.int .i64 0)).setCell ⟨w.heap.size + 1, 1, none⟩ (.slice none 0 0)) := ((But.refl _ _ _).setCell (by simp) (by simp) _).setCell (by simp) (by simp) _
    refine bodyPost_ret (v := .tuple #[.agg #[.int .i64 0, .slice none 0 0], .bool false]) (by simp [results, Try.results25, go_sem, r0, r1]) rfl ?_
    exact ⟨_, rfl, zero_clock _ _ _, K1.onto B (by omega)⟩
  | true =>
    go_enter Try.func25, Try.ntmps25
    repeat (first | go_values | go_skip | go_guarded | go_step | go_upon)
    go_at_call 16
    refine (specGood (now, l) _ _ (hv.kept (((But.refl _ _ _).alloc _).alloc _))).mono ?_
    rintro e w1 ⟨rfl, k1⟩
    rw [hg]
    have K1 : Kept w w1 := (((But.refl _ _ _).alloc _).alloc _).trans k1
    have L0 := (Loc.alloc (Loc.new w [.int .i64 now, .slice ao l.length cap] 25) (.cells #[.int .i64 0, .slice none 0 0] 25)).kept k1
    have L1 := (Loc.new (w.alloc (.cells #[.int .i64 now, .slice ao l.length cap] 25)) [.int .i64 0, .slice none 0 0] 25).kept k1
    simp only [World.size_alloc] at L1
    have hw1 := L1.lt
    have hw0 := L0.lt
    have s0 := L0.cell 0 rfl
    have s1 := L0.cell 1 rfl
    have r0 := L1.cell 0 rfl
    have r1 := L1.cell 1 rfl
    have rf0 := L1.frozen 0
    have rf1 := L1.frozen 1
    clear k1
    go_wp2_with fail
    have hlen : l.length ≤ 20 := by
      have := hg
      simp only [goodC, Bool.and_eq_true, decide_eq_true_eq] at this
      exact this.1.2
    obtain ⟨i0, hi0, hz0, hz1, hz2⟩ := info_parts info46
    clear s0 s1 r0 r1 rf0 rf1
    go_loopw [8, 19] (fun _ i wr => ∃ (k : Nat) (ao2 : Option Addr) (cap2 : Nat), k ≤ l.length ∧ i = .int .i64 k ∧ TimerO wr (w1.heap.size + 1) wr.heap.size (.slice ao2 (dropM (l.take k) id).length cap2) (dropM (l.take k) id) ∧ Loc wr w1.heap.size [.int .i64 now, .slice ao2 (dropM (l.take k) id).length cap2] ∧ Kept w1 wr) (fun _ i _ => l.length - (intOf i).toNat)
    case atStart =>
      exact ⟨0, none, 0, by omega, rfl, ⟨World.ownsRow_nil _ _ _ _, fun g hg => by simp [Value.ownBlock] at hg⟩, Loc.new w1 [.int .i64 now, .slice none 0 0] 25, (But.refl _ _ _).alloc _⟩
    case round =>
      obtain ⟨k, ao2, cap2, hk, rfl, ho, hL, hkp⟩ := hrel
      have K0 : Kept w wr := K1.trans hkp
      have hsz := hkp.size
      have hLl := hL.lt
      by_cases hlt : k < l.length
      · obtain ⟨⟨a, b, e, d⟩, hp⟩ : ∃ p, l[k]? = some p := ⟨_, List.getElem?_eq_getElem hlt⟩
        obtain ⟨g, o, cap1, ee, c0, c1, c2, c3⟩ := timer_get (hr.kept K0) hp
        cases ee
        dsimp only at c0 c1 c2 c3
        have hgw : g < wr.heap.size := World.block_lt_of_cell? _ _ c0
        have htk := take_snoc hp
        have m0 := hL.cell 0 rfl
        have m1 := hL.cell 1 rfl
        have mf1 := hL.frozen 1
        have HK0 : Hid (Kept w wr) := K0
        have HKP : Hid _ := hkp
        have HO : Hid _ := ho
        have HL : Hid (Loc _ _ _) := hL
        clear hp K0 hkp ho hL
        cases q : (a == id) with
        | true =>
          have hdm : dropM (l.take (k + 1)) id = dropM (l.take k) id := by rw [htk]; simp [dropM, q]
          have HD : Hid _ := hdm
          clear hdm htk
          repeat (first | go_values | go_skip | go_guarded | go_step | go_upon)
          refine ⟨⟨k + 1, ao2, cap2, hlt, by go_num, ?_, ?_, HKP.out.alloc _⟩, by simp [intOf]; omega⟩
          · rw [HD.out]; exact (TimerO.kept HO.out ((But.refl _ _ wr).alloc _)).low
          · rw [HD.out]; exact Loc.alloc HL.out _
        | false =>
          have hdm : dropM (l.take (k + 1)) id = dropM (l.take k) id ++ [(a, b, e, d)] := by rw [htk]; simp [dropM, q]
          have HD : Hid _ := hdm
          obtain ⟨M, hM⟩ : ∃ M, (dropM (l.take k) id).length = M := ⟨_, rfl⟩
          have hMk : M ≤ 20 := by rw [← hM]; unfold dropM; exact Nat.le_trans (List.length_filter_le _ _) (by simp; omega)
          have HM : Hid _ := hM
          rw [hM] at m1
          clear hdm htk hM
          repeat (first | (at_builtin; refine forgetL (fun w' => w' = _) rfl ?_) | go_values | go_skip | go_guarded | go_step | go_upon)
          intro W7 hW7
          subst hW7
          have LT := Loc.new (wr.alloc (.cells #[.int .i64 a, .int .i64 b, .int .i64 e, .int .i64 d] 46)) (timerC (a, b, e, d)) 46
          have k7 : Kept wr ((wr.alloc (.cells #[.int .i64 a, .int .i64 b, .int .i64 e, .int .i64 d] 46)).alloc (.cells (timerC (a, b, e, d)).toArray 46)) := ((But.refl _ _ wr).alloc _).alloc _
          have hom : TimerO wr (w1.heap.size + 1) wr.heap.size (.slice ao2 M cap2) (dropM (l.take k) id) := by have := HO.out; unfold TimerO; rw [HM.out] at this ⊢; exact this
          simp only [World.size_alloc] at LT
          refine wpList_append_own _ rfl _ _ 23 rfl (w1.heap.size + 1) 46 i0 (.agg #[.int .i64 0, .int .i64 0, .int .i64 0, .int .i64 0]) 4 32 Try.underlying23 hi0 hz0 hz1 hz2 rfl (by decide) (.slice ao2 M cap2) M ((dropM (l.take k) id).flatMap timerC) rfl (by have := own_ks hom k7; rw [HM.out] at this; exact this) ⟨_, 0, none⟩ 1 1 (timerC (a, b, e, d)) rfl rfl (news4 LT) (one4 _) (by unfold maxLen; omega) (by omega) (by simp; omega) ?_
          intro v' w2 hown hgrow _
          obtain ⟨hT, hLoc, hKept⟩ := app_timer (TimerO.kept hom k7) HM.out hown hgrow
          obtain ⟨ao3, cap3, hf⟩ := hT.form
          rw [List.length_append, HM.out] at hf
          simp only [List.length_cons, List.length_nil] at hf
          subst hf
          have M2 := hLoc _ _ (Loc.kept HL.out k7) (by omega)
          have K2 := hKept _ (HKP.out.trans k7) (by omega)
          have mm0 := M2.cell 0 rfl
          have mm1 := M2.cell 1 rfl
          have mmf := M2.frozen 1
          have HT : Hid _ := hT
          have HK2 : Hid _ := K2
          have HM2 : Hid (Loc _ _ _) := M2
          clear hT hLoc hKept hown hgrow K2 M2 LT k7 hom
          repeat (first | go_values | go_skip | go_guarded | go_step | go_upon)
          have B : But w1.heap.size (w1.heap.size + 1) w2 (w2.setCell ⟨w1.heap.size, 1, none⟩ (.slice ao3 (M + 1) cap3)) := (But.refl _ _ _).setCell (by simp) (by simp) _
          have hl1 : (dropM (l.take (k + 1)) id).length = M + 1 := by rw [HD.out, List.length_append, HM.out]; rfl
          refine ⟨⟨k + 1, ao3, cap3, hlt, by go_num, ?_, ?_, HK2.out.onto B (by omega)⟩, by simp [intOf]; omega⟩
          · rw [hl1, HD.out]; exact (TimerO.but HT.out B (by omega)).low
          · rw [hl1]; exact Loc.set HM2.out 1 _
      · have hke : k = l.length := by omega
        subst hke
        have L0' := L0.kept hkp
        have s1 := L0'.cell 1 rfl
        have L1' := L1.kept hkp
        have r0 := L1'.cell 0 rfl
        have r1 := L1'.cell 1 rfl
        have rf0 := L1'.frozen 0
        have rf1 := L1'.frozen 1
        have m0 := hL.cell 0 rfl
        have m1 := hL.cell 1 rfl
        rw [List.take_length] at m1 ho
        have hany : l.any (fun t => t.1 == id) = !decide ((dropM l id).length = l.length) := by
          have hiff : (dropM l id).length = l.length ↔ ∀ t ∈ l, (!(t.1 == id)) = true := List.length_filter_eq_length_iff
          by_cases h : (dropM l id).length = l.length
          · have := hiff.1 h
            simp only [h, decide_true, Bool.not_true, List.any_eq_false]
            intro t ht
            have := this t ht
            simpa using this
          · have : ¬ ∀ t ∈ l, (!(t.1 == id)) = true := fun x => h (hiff.2 x)
            simp only [h, decide_false, Bool.not_false, List.any_eq_true]
            simp only [Classical.not_forall] at this
            obtain ⟨t, ht, hb⟩ := this
            exact ⟨t, ht, by simpa using hb⟩
        have hA : dropA (now, l) id = if (dropM l id).length = l.length then ((0, []), false) else ((now, dropM l id), true) := by
          simp only [dropA, hg, Bool.true_and, hany]
          by_cases h : (dropM l id).length = l.length <;> simp [h]
        have HA : Hid _ := hA
        have HO : Hid _ := ho
        have HK0 : Hid _ := K0
        clear hany hA ho hL L0' L1' K0
        by_cases h : (dropM l id).length = l.length
        · have hd : ((((dropM l id).length : Nat) : Int) == ((l.length : Nat) : Int)) = true := by simp; omega
          generalize hM : (dropM l id).length = M at *
          have HM : Hid ((dropM l id).length = M) := hM
          clear hM
          repeat (first | go_values | go_skip | go_guarded | go_step | go_upon)
          have B : But (w.heap.size + 1) (w.heap.size + 2) wr ((wr.setCell ⟨w.heap.size + 1, 0, none⟩ (.int .i64 0)).setCell ⟨w.heap.size + 1, 1, none⟩ (.slice none 0 0)) := ((But.refl _ _ _).setCell (by simp) (by simp) _).setCell (by simp) (by simp) _
          refine bodyPost_ret (v := .tuple #[.agg #[.int .i64 0, .slice none 0 0], .bool false]) (by simp [results, Try.results25, go_sem, r0, r1]) rfl ?_
          rw [HA.out, if_pos h]
          exact ⟨_, rfl, zero_clock _ _ _, HK0.out.onto B (by omega)⟩
        · have hd : ((((dropM l id).length : Nat) : Int) == ((l.length : Nat) : Int)) = false := by simp; omega
          generalize hM : (dropM l id).length = M at *
          have HM : Hid ((dropM l id).length = M) := hM
          clear hM
          repeat (first | go_values | go_skip | go_guarded | go_step | go_upon)
          have B : But (w.heap.size + 1) (w.heap.size + 2) wr ((wr.setCell ⟨w.heap.size + 1, 0, none⟩ (.int .i64 now)).setCell ⟨w.heap.size + 1, 1, none⟩ (.slice ao2 M cap2)) := ((But.refl _ _ _).setCell (by simp) (by simp) _).setCell (by simp) (by simp) _
          refine bodyPost_ret (v := .tuple #[.agg #[.int .i64 now, .slice ao2 M cap2], .bool true]) (by simp [results, Try.results25, go_sem, r0, r1]) rfl ?_
          rw [HA.out, if_neg h]
          refine ⟨_, rfl, ⟨_, rfl, ?_⟩, HK0.out.onto B (by omega)⟩
          have hT : TimerO wr (w1.heap.size + 1) wr.heap.size (.slice ao2 M cap2) (dropM l id) := by unfold TimerO; rw [HM.out]; exact HO.out
          exact ((TimerO.but hT B (by omega)).mono (by omega) B.size).low

end Go.Proofs.Ythihgjcnjgpegaa
