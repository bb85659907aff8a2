/-
  The first line of a text, in the program.
-/
import Derived.Test.YtaofilinejanjaaDoorLib18
import Derived.Test.YtaofilinejanjaaDoorIter18
import Derived.Test.YtaofilinejanjaaDoorQuiet
namespace Go.Proofs.YtaofilinejanjaaDoor
open Go.ChangeShapes Go.WideShapes Go.ChangeAt Go.RowKit

set_option maxRecDepth 100000
set_option linter.unusedVariables false

set_option maxHeartbeats 8000000 in
theorem icut (t : ByteArray) (wide : Int) (w : World) (hs : t.size ≤ 1048576) (hw : 1 ≤ wide ∧ wide ≤ 100) :
    Calls Tryd.prog 29 #[.string t, .int .i64 wide] w fun e w' => e = .returned (.tuple #[.string (cutA t wide).1, .string (cutA t wide).2]) ∧ Kept w w' := by
  have HR0 : Hid (cutF t wide (t.size + 1) 0 0 (-1) = cutA t wide) := show cutF t wide (t.size + 1) 0 0 (-1) = cutA t wide from rfl
  generalize cutA t wide = R at *
  obtain ⟨hw1, hw2⟩ := hw
  go_enter Tryd.func29, Tryd.ntmps29
  go_wp2
  go_loopw [6, 7] (fun mv bv wr => ∃ (p b : Nat) (many bl : Int), wr.heap[w.heap.size]? = some (.stringIter t p) ∧ mv = .int .i64 many ∧ bv = .int .i64 bl ∧ Hid (cutF t wide b p many bl = R) ∧ t.size + 1 ≤ p + b ∧ p ≤ t.size ∧ 0 ≤ many ∧ many ≤ (p : Int) ∧ (bl = -1 ∨ ∃ q : Nat, bl = (q : Int) ∧ q < t.size) ∧ Kept w wr) (fun mv bv wr => t.size - wr.iterPos w.heap.size)
  case atStart => exact ⟨0, t.size + 1, 0, -1, World.iter_heap w t 0, rfl, rfl, HR0, by omega, by omega, by omega, by omega, .inl rfl, (But.refl _ _ _).alloc _⟩
  case round =>
    obtain ⟨p, b, many, bl, hit, rfl, rfl, HR, hpb, hps, hm0, hmp, hbl, hkp⟩ := hrel
    have HK : Hid (Kept w wr) := hkp
    have s1 := hkp.size
    have hBl : w.heap.size < wr.heap.size := (Array.getElem?_eq_some_iff.1 hit).1
    have HI : Hid (wr.heap[w.heap.size]? = some (.stringIter t p)) := hit
    have hm : wr.iterPos w.heap.size = p := by simp [World.iterPos, hit]
    rw [hm]
    clear hkp hit
    by_cases hlt : p < t.size
    · obtain ⟨b', rfl⟩ : ∃ b', b = b' + 1 := ⟨b - 1, by omega⟩
      have hw1' := wid_pos t p hlt
      have hw2' := wid_le t p hlt
      have hrl := run_le t p
      have hnx : ∀ ty, (Instr.next (.pointer (some ⟨w.heap.size, 0, none⟩)) true ty).run Tryd.prog wr = _ := fun ty => run_next_at wr w.heap.size t p ty HI.out hlt
      have HGO := cutF_go t wide b' p many bl
      have hit2 := put_same wr w.heap.size _ (.stringIter t (p + (runM t p).2)) HI.out
      have hkp2 := HK.out.putObj w.heap.size (.stringIter t (p + (runM t p).2)) (by omega)
      have hz2 := size_put wr w.heap.size (.stringIter t (p + (runM t p).2))
      have hm2 : (wr.putObj w.heap.size (.stringIter t (p + (runM t p).2))).iterPos w.heap.size = p + (runM t p).2 := by simp [World.iterPos, hit2]
      have HBL := run_blank t p hlt
      obtain ⟨bl', hbl'⟩ : ∃ x, (if byt t p = 32 then (p : Int) else bl) = x := ⟨_, rfl⟩
      have HGS : Hid (many < wide → cutF t wide b' (p + (runM t p).2) (many + 1) bl' = R) := fun h => by
        rw [← HGO bl' hlt h hbl']
        exact HR.out
      have HCS : Hid (¬ many < wide → bl' < 0 → R = (t.extract 0 p, t.extract p t.size)) := fun h h2 => by
        rw [← cutF_cut t wide b' p many bl bl' hlt h hbl' h2]
        exact HR.out.symm
      have HBS : Hid (¬ many < wide → ¬ bl' < 0 → R = (trimR (t.extract 0 bl'.toNat), trimL (t.extract bl'.toNat t.size))) := fun h h2 => by
        rw [← cutF_blank t wide b' p many bl bl' hlt h hbl' h2]
        exact HR.out.symm
      have hbb : bl' = -1 ∨ ∃ q : Nat, bl' = (q : Int) ∧ q < t.size := by
        by_cases hq : byt t p = 32
        · rw [if_pos hq] at hbl'
          exact .inr ⟨p, hbl'.symm, hlt⟩
        · rw [if_neg hq] at hbl'
          rw [← hbl']
          exact hbl
      have HBI : Hid (((runM t p).1 : Int) = 32 → (p : Int) = bl') := fun h => by
        rw [if_pos (HBL.1 h)] at hbl'
        exact hbl'
      have HBN : Hid (¬ ((runM t p).1 : Int) = 32 → bl = bl') := fun h => by
        rw [if_neg (fun e => h (HBL.2 e))] at hbl'
        exact hbl'
      have hxp1 : ∀ W, (Instr.slice 9 (.string t) none (some (.int .i64 (p : Int))) none).run Tryd.prog W = .ok (.string (t.extract 0 p)) W := fun W => sl_to t p _ rfl hps W
      have hxp2 : ∀ W, (Instr.slice 9 (.string t) (some (.int .i64 (p : Int))) none none).run Tryd.prog W = .ok (.string (t.extract p t.size)) W := fun W => sl_from t p _ rfl hps W
      clear hbl' HGO HBL HR hbl
      generalize (runM t p).1 = r at *
      generalize (runM t p).2 = n at *
      generalize hW2 : wr.putObj w.heap.size (.stringIter t (p + n)) = W2 at *
      have HK : Hid (Kept w W2) := hkp2
      have HI : Hid (W2.heap[w.heap.size]? = some (.stringIter t (p + n))) := hit2
      have HM2 : Hid (W2.iterPos w.heap.size = p + n) := hm2
      have hz3 : wr.heap.size ≤ W2.heap.size := by omega
      clear hit2 hkp2 hW2 hz2 hm2
      by_cases hrb : (r : Int) = 32
      · have d1 : ((r : Int) == 32) = true := by simp [hrb]
        have d1' : (r == 32) = true := by rw [Bool.eq_iff_iff]; simp; omega
        have hbe := HBI.out hrb
        subst hbe
        clear HBI HBN hrb
        by_cases q1 : many < wide
        · have d2 : decide (many < wide) = true := decide_eq_true q1
          have HN := HGS.out q1
          have HNH : Hid (cutF t wide b' (p + n) (many + 1) (p : Int) = R) := HN
          clear HGS HCS HBS HN
          repeat (first | go_values | go_skip | go_guarded | go_step | go_upon)
          exact ⟨⟨p + n, b', many + 1, (p : Int), HI.out, by go_num, rfl, HNH, by omega, by omega, by omega, by omega, hbb, HK.out⟩, by rw [HM2.out]; omega⟩
        have d2 : decide (many < wide) = false := decide_eq_false q1
        have q2 : ¬ (p : Int) < 0 := by omega
        have d3 : decide ((p : Int) < 0) = false := decide_eq_false q2
        have hq := hlt
        have hR := HBS.out q1 q2
        rw [Int.toNat_natCast] at hR
        subst hR
        clear HGS HCS HBS HR0
        have hx1 : ∀ W, (Instr.slice 9 (.string t) none (some (.int .i64 (p : Int))) none).run Tryd.prog W = .ok (.string (t.extract 0 p)) W := fun W => sl_to t p _ rfl (by omega) W
        have hx2 : ∀ W, (Instr.slice 9 (.string t) (some (.int .i64 (p : Int))) none none).run Tryd.prog W = .ok (.string (t.extract p t.size)) W := fun W => sl_from t p _ rfl (by omega) W
        have A1 : Hid (∀ W, Calls Tryd.prog 39 #[.string (t.extract 0 p), .string ⟨#[32]⟩] W fun e w' => e = .returned (.string (trimR (t.extract 0 p))) ∧ w' = W) := fun W => itrimR _ W (by rw [ByteArray.size_extract]; omega)
        have A2 : Hid (∀ W, Calls Tryd.prog 40 #[.string (t.extract p t.size), .string ⟨#[32]⟩] W fun e w' => e = .returned (.string (trimL (t.extract p t.size))) ∧ w' = W) := fun W => itrimL _ W
        repeat (first | go_values | go_skip | go_guarded | go_step | go_upon)
        refine wp_region_kept (by kernel_rfl) (by kernel_rfl) ?_
        repeat (go_big_quiet_step (first | (go_at_call 39; with_reducible exact kw_same (A1.out _)) | (go_at_call 40; with_reducible exact kw_same (A2.out _))))
        refine wpQuiet_nil ?_
        rintro w5 ⟨⟨w8, k5⟩, h9⟩
        change w5 = w8 at h9
        subst h9
        repeat (first | go_values | go_skip | go_guarded | go_step | go_upon)
        go_ret2
        exact ⟨rfl, HK.out.trans k5⟩
      · have d1 : ((r : Int) == 32) = false := by simp [hrb]
        have d1' : (r == 32) = false := by rw [Bool.eq_iff_iff]; simp; omega
        have hbe := HBN.out hrb
        subst hbe
        clear HBI HBN hrb
        by_cases q1 : many < wide
        · have d2 : decide (many < wide) = true := decide_eq_true q1
          have HN := HGS.out q1
          have HNH : Hid (cutF t wide b' (p + n) (many + 1) bl = R) := HN
          clear HGS HCS HBS HN
          repeat (first | go_values | go_skip | go_guarded | go_step | go_upon)
          exact ⟨⟨p + n, b', many + 1, bl, HI.out, by go_num, rfl, HNH, by omega, by omega, by omega, by omega, hbb, HK.out⟩, by rw [HM2.out]; omega⟩
        have d2 : decide (many < wide) = false := decide_eq_false q1
        by_cases q2 : bl < 0
        · have d3 : decide (bl < 0) = true := decide_eq_true q2
          have hR := HCS.out q1 q2
          subst hR
          clear HGS HCS HBS HR0
          repeat (first | go_values | go_skip | go_guarded | go_step | go_upon)
          go_quiet (fail)
          repeat (first | go_values | go_skip | go_guarded | go_step | go_upon)
          go_ret2
          exact ⟨rfl, HK.out.drewN _⟩
        have d3 : decide (bl < 0) = false := decide_eq_false q2
        obtain ⟨q, rfl, hq⟩ : ∃ q : Nat, bl = (q : Int) ∧ q < t.size := hbb.resolve_left (by omega)
        clear hbb
        have hR := HBS.out q1 q2
        rw [Int.toNat_natCast] at hR
        subst hR
        clear HGS HCS HBS HR0
        have hx1 : ∀ W, (Instr.slice 9 (.string t) none (some (.int .i64 (q : Int))) none).run Tryd.prog W = .ok (.string (t.extract 0 q)) W := fun W => sl_to t q _ rfl (by omega) W
        have hx2 : ∀ W, (Instr.slice 9 (.string t) (some (.int .i64 (q : Int))) none none).run Tryd.prog W = .ok (.string (t.extract q t.size)) W := fun W => sl_from t q _ rfl (by omega) W
        have A1 : Hid (∀ W, Calls Tryd.prog 39 #[.string (t.extract 0 q), .string ⟨#[32]⟩] W fun e w' => e = .returned (.string (trimR (t.extract 0 q))) ∧ w' = W) := fun W => itrimR _ W (by rw [ByteArray.size_extract]; omega)
        have A2 : Hid (∀ W, Calls Tryd.prog 40 #[.string (t.extract q t.size), .string ⟨#[32]⟩] W fun e w' => e = .returned (.string (trimL (t.extract q t.size))) ∧ w' = W) := fun W => itrimL _ W
        repeat (first | go_values | go_skip | go_guarded | go_step | go_upon)
        refine wp_region_kept (by kernel_rfl) (by kernel_rfl) ?_
        repeat (go_big_quiet_step (first | (go_at_call 39; with_reducible exact kw_same (A1.out _)) | (go_at_call 40; with_reducible exact kw_same (A2.out _))))
        refine wpQuiet_nil ?_
        rintro w5 ⟨⟨w8, k5⟩, h9⟩
        change w5 = w8 at h9
        subst h9
        repeat (first | go_values | go_skip | go_guarded | go_step | go_upon)
        go_ret2
        exact ⟨rfl, HK.out.trans k5⟩
    · have hnx : ∀ ty, (Instr.next (.pointer (some ⟨w.heap.size, 0, none⟩)) true ty).run Tryd.prog wr = _ := fun ty => run_next_off wr w.heap.size t p ty HI.out hlt
      have hR : R = (t, ByteArray.empty) := by
        have h := HR.out
        rw [cutF_end t wide b p many bl hlt] at h
        exact h.symm
      subst hR
      clear HR HR0
      repeat (first | go_values | go_skip | go_guarded | go_step | go_upon)
      go_ret2
      exact ⟨rfl, HK.out⟩

end Go.Proofs.YtaofilinejanjaaDoor
