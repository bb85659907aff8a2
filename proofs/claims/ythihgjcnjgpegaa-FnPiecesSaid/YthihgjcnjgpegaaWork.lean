/-
  A heap of timers worked off.
-/
import Derived.Test.YthihgjcnjgpegaaFire
import Derived.Test.YthihgjcnjgpegaaTake
import Derived.Test.YthihgjcnjgpegaaRunM
namespace Go.Proofs.Ythihgjcnjgpegaa
open Go.ChangeShapes Go.WideShapes Go.ChangeAt Go.RowKit

set_option maxRecDepth 100000
def firedLeft (B : Nat) (w : World) : Nat := match w.cell? ⟨B, 3, none⟩ with
  | some (.slice _ n _) => 2001 - n
  | _ => 0
theorem inv_TB {u : Int} {R : Option (List TimerD × List FiredD)} {ps : List TimerD} {fs : List FiredD} (h : RunInv u R ps fs) : ∀ t ∈ ps, TB t := by
  obtain ⟨l, hl, _, hb, _⟩ := h
  exact fun t ht => hb t (hl.mem_iff.2 ht)
set_option maxHeartbeats 8000000 in
theorem workOff (B : Nat) (u : Int) (hu : u ≤ 100000) (R : Option (List TimerD × List FiredD)) (iv fv : Value) (ps : List TimerD) (fs : List FiredD) (w : World) (hL : Loc w B [.int .i64 u, .func (.func 38) #[] #[], iv, fv]) (ho : TimerO w (B + 1) w.heap.size iv ps) (hf : FiredO w (B + 1) w.heap.size fv fs) (hn : ps.length ≤ 1000) (hh : Heap (atT ps) ps.length) (hI : RunInv u R ps fs) :
    Calls Try.prog 40 #[.pointer (some ⟨B, 1, none⟩), .func (.func 41) #[.pointer (some ⟨B, 0, none⟩)] #[], .func (.func 42) #[.pointer (some ⟨B, 0, none⟩)] #[]] w fun e w' => e = .returned (.tuple #[]) ∧ ∃ (ps' : List TimerD) (fs' : List FiredD) (iv' fv' : Value), Loc w' B [.int .i64 u, .func (.func 38) #[] #[], iv', fv'] ∧ TimerO w' (B + 1) w'.heap.size iv' ps' ∧ FiredO w' (B + 1) w'.heap.size fv' fs' ∧ ps'.length ≤ 1000 ∧ ((fs'.length = 2001 ∧ R = none) ∨ (fs'.length ≤ 2000 ∧ ∃ l, l.Perm ps' ∧ Rising l ∧ R = some (l, fs'))) ∧ ∀ u0, Kept u0 w → u0.heap.size ≤ B → Kept u0 w' := by
  go_enter Try.func40, Try.ntmps40
  go_wp2_with fail
  go_loopw [] (fun wr => ∃ (ps' : List TimerD) (fs' : List FiredD) (iv' fv' : Value), Loc wr B [.int .i64 u, .func (.func 38) #[] #[], iv', fv'] ∧ TimerO wr (B + 1) wr.heap.size iv' ps' ∧ FiredO wr (B + 1) wr.heap.size fv' fs' ∧ ps'.length ≤ 1000 ∧ Heap (atT ps') ps'.length ∧ RunInv u R ps' fs' ∧ ∀ u0, Kept u0 w → u0.heap.size ≤ B → Kept u0 wr) (fun wr => firedLeft B wr)
  case atStart => exact ⟨ps, fs, iv, fv, hL, ho, hf, hn, hh, hI, fun u0 h _ => h⟩
  case round =>
    obtain ⟨ps, fs, iv, fv, hL, ho, hf, hn, hh, hI, hK⟩ := hrel
    obtain ⟨ao, cap, hfm⟩ := ho.form
    subst hfm
    obtain ⟨aof, capf, hfm⟩ := hf.form
    subst hfm
    have b2 := hL.cell 2 rfl
    have b3 := hL.cell 3 rfl
    have hBw := hL.lt
    have hleft : firedLeft B wr = 2001 - fs.length := by unfold firedLeft; rw [b3]
    by_cases h0 : 0 < ps.length
    · have g0 := atT_some h0
      obtain ⟨⟨a, b, c, d⟩, hx⟩ : ∃ t, atT ps 0 = t := ⟨_, rfl⟩
      rw [hx] at g0
      obtain ⟨g, cap9, hfs⟩ := own_some ho.1 h0
      cases hfs
      obtain ⟨c0, c1, c2, c3, -⟩ := ho.cells g0
      simp only [Nat.zero_mul, Nat.zero_add] at c0 c1 c2 c3
      have hgw : g < wr.heap.size := World.block_lt_of_cell? _ _ c0
      have p1 : decide ((0 : Int) < (ps.length : Int)) = true := by simp; omega
      have p2 : decide (0 < ps.length) = true := by simpa using h0
      have hN0 : (0 : Int) < (ps.length : Int) := by omega
      have htb := inv_TB hI _ (at_mem h0)
      rw [hx] at htb
      obtain ⟨t1, t2, t3, t4, t5, t6⟩ := htb
      dsimp only at t1 t2 t3 t4 t5 t6
      have HH : Hid (Heap (atT ps) ps.length ∧ RunInv u R ps fs ∧ ∀ u0, Kept u0 w → u0.heap.size ≤ B → Kept u0 wr) := ⟨hh, hI, hK⟩
      have HX : Hid (atT ps 0 = (a, b, c, d)) := hx
      have HLF : Hid _ := hleft
      clear hh hI hK hx g0 hleft
      cases q : (decide (b ≤ u) && decide (fs.length ≤ 2000)) with
      | false =>
        repeat (first | (go_at_call 41; refine (isDue B u _ aof fs.length capf a b c d _ hL).mono ?_; rintro e w1 ⟨rfl, k1⟩; rw [q]; dsimp only) | go_values | go_skip | go_guarded | go_step | go_upon)
        go_end0
        obtain ⟨hh, hI, hK⟩ := HH.out
        refine ⟨rfl, ps, fs, _, _, hL.kept k1, (TimerO.kept ho k1).low, (FiredO.kept hf k1).low, hn, hI.done hh ?_, fun u0 hk hu0 => (hK u0 hk hu0).trans k1⟩
        rw [HX.out]
        intro hc
        rw [Bool.and_eq_false_iff] at q
        rcases q with q | q
        · simp at q; dsimp only at hc; omega
        · simp at q; omega
      | true =>
        have hq1 : b ≤ u ∧ fs.length ≤ 2000 := by simpa using q
        repeat (first | (go_at_call 41; refine (isDue B u _ aof fs.length capf a b c d _ hL).mono ?_; rintro e w1 ⟨rfl, k1⟩; rw [q]; dsimp only) | go_values | go_skip | go_guarded | go_step | go_upon)
        go_at_call 66
        obtain ⟨hh, hI, hK⟩ := HH.out
        refine (takeT B (.int .i64 u) (.slice aof fs.length capf) _ ps _ (hL.kept k1) ((TimerO.kept ho k1).low) hn h0 hh).mono ?_
        rintro e w2 ⟨rfl, ps1, iv1, L2, o2, hp2, hh2, T2, ob2⟩
        have f2 : FiredO w2 (B + 1) w2.heap.size (.slice aof fs.length capf) fs := by
          have := (FiredO.kept hf k1).low
          exact (RowO.touch this T2 (by omega) (ap_types this (TimerO.kept ho k1) (by decide))).low
        have KK : ∀ u0, Kept u0 w → u0.heap.size ≤ B → Kept u0 w2 := fun u0 hk hu0 => T2.new hu0 (fun x hx => by have := (own_lt ho.1 hx).1; omega) ((hK u0 hk hu0).trans k1)
        have hl2 : ps1.length + 1 = ps.length := by simpa using hp2.length_eq
        have HS : Hid (∀ ps'', ps''.Perm (again (a, b, c, d) ++ ps1) → RunInv u R ps'' (fs ++ [(b, a)])) := fun ps'' hp'' => by
          have hd : (atT ps 0).2.1 ≤ u := by rw [HX.out]; exact hq1.1
          have := hI.step hu hh h0 hd hq1.2 hp2 (ps'' := ps'') (by rw [HX.out]; exact hp'')
          rw [HX.out] at this
          exact this
        have HKK : Hid _ := KK
        rw [HX.out]
        clear hh hI hK KK hp2 T2 k1 hL c0 c1 c2 c3 b2 b3
        dsimp only [timerC]
        repeat (first | go_values | go_skip | go_guarded | go_step | go_upon)
        go_at_call 42
        refine (fireT B u iv1 _ ps1 fs a b c d _ L2 o2 f2 (by omega) (by omega) hh2 t1 (by omega) t3 (by omega) (by omega) (by omega)).mono ?_
        rintro e w3 ⟨rfl, ps2, iv2, fv2, L3, o3, f3, hp3, hh3, hk3⟩
        have hl3 : ps2.length ≤ ps1.length + 1 := by
          rw [hp3.length_eq, List.length_append]
          unfold again
          split <;> simp <;> omega
        obtain ⟨aof3, capf3, hfm⟩ := f3.form
        have hlf : (fs ++ [(b, a)]).length = fs.length + 1 := by simp
        rw [hlf] at hfm
        subst hfm
        have c3 := L3.cell 3 rfl
        have hleft3 : firedLeft B w3 = 2001 - (fs.length + 1) := by unfold firedLeft; rw [c3]
        have HL3 : Hid (Loc _ _ _) := L3
        have HOF : Hid (TimerO w3 (B + 1) w3.heap.size iv2 ps2 ∧ FiredO w3 (B + 1) w3.heap.size (.slice aof3 (fs.length + 1) capf3) (fs ++ [(b, a)])) := ⟨o3, f3⟩
        have HP3 : Hid (ps2.Perm (again (a, b, c, d) ++ ps1) ∧ Heap (atT ps2) ps2.length ∧ ∀ u0, Kept u0 w2 → u0.heap.size ≤ B → Kept u0 w3) := ⟨hp3, hh3, hk3⟩
        have HLF3 : Hid _ := hleft3
        clear L3 o3 f3 hp3 hh3 hk3 c3 hleft3 L2 o2 f2 hh2
        dsimp only
        repeat (first | go_values | go_skip | go_guarded | go_step | go_upon)
        refine ⟨⟨ps2, fs ++ [(b, a)], iv2, _, HL3.out, HOF.out.1, HOF.out.2, by omega, HP3.out.2.1, HS.out ps2 HP3.out.1, fun u0 hk hu0 => HP3.out.2.2 u0 (HKK.out u0 hk hu0) hu0⟩, ?_⟩
        rw [HLF.out, HLF3.out]
        omega
    · have p1 : decide ((0 : Int) < (ps.length : Int)) = false := decide_eq_false (by omega)
      have p2 : decide (0 < ps.length) = false := decide_eq_false h0
      have HH : Hid (Heap (atT ps) ps.length ∧ RunInv u R ps fs ∧ ∀ u0, Kept u0 w → u0.heap.size ≤ B → Kept u0 wr) := ⟨hh, hI, hK⟩
      clear hh hI hK
      repeat (first | go_values | go_skip | go_guarded | go_step | go_upon)
      go_end0
      obtain ⟨hh, hI, hK⟩ := HH.out
      exact ⟨rfl, ps, fs, _, _, hL, ho, hf, hn, hI.done hh (fun x => h0 x.1), hK⟩

end Go.Proofs.Ythihgjcnjgpegaa
