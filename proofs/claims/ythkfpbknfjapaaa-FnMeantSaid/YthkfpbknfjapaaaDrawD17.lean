/-
  Binds that are drawn.
-/
import Derived.Test.YthkfpbknfjapaaaDrawB17
namespace Go.Proofs.Ythkfpbknfjapaaa
open Go.ChangeShapes Go.WideShapes Go.ChangeAt Go.RowKit

set_option maxRecDepth 100000
set_option linter.unusedVariables false

def oddL : List ByteArray := [⟨#[]⟩, ⟨#[122, 122]⟩, ⟨#[97]⟩]
theorem But.binner {a b w : World} {lo hi : Nat} {v : Value} {l : List BindD} (k : But (blo v) (bhi v) a b) (h : BindsO w lo hi v l) : But lo hi a b := by
  obtain ⟨ts, h, _⟩ := h
  exact k.inner h.row
theorem But.above {w a c : World} {b hi : Nat} (h : But b (b + 1) w a) (k : But w.heap.size hi a c) : But b (b + 1) w c :=
  ⟨k.os.trans h.os, k.out.trans h.out, Nat.le_trans h.size k.size, fun i hi' hb => (k.block i (Nat.lt_of_lt_of_le hi' h.size) (.inl hi')).trans (h.block i hi' hb)⟩
set_option maxHeartbeats 16000000 in
theorem binds_ok (w : World) (b : Nat) (K : Int) (h : CurOk w b K) (hK : K ≤ 1152921504606820000) :
    Calls Try.prog 45 #[.pointer (some ⟨b, 0, none⟩)] w fun e w' => ∃ (l : List BindD) (v : Value), e = .returned v ∧ l.length ≤ 20 ∧ SmallB l ∧ BindsO w' w.heap.size w'.heap.size v l ∧ CurOk w' b (K + 1000) ∧ But b (b + 1) w w' := by
  have hb := h.lt
  go_enter Try.func45, Try.ntmps45
  repeat (first | go_values | go_skip | go_guarded | go_step | go_upon)
  go_at_call 82
  refine (pick_ok _ b K 6 h (by omega) (by omega)).mono ?_
  rintro e w1 ⟨n, rfl, hn, hC, hg⟩
  dsimp only
  obtain ⟨M, rfl, hMl⟩ := nat_of n 6 hn.1 hn.2
  have HDD : Hid (DrB w w1 b (K + 2) (.slice none 0 0) []) := ⟨hC, nil_binds _ _ _, hg, hb, fun d hd => by cases hd⟩
  clear hC hg hn
  repeat (first | go_values | go_skip | go_guarded | go_step | go_upon)
  go_loopw [3, 4] (fun x y wr => ∃ (m : Nat) (l : List BindD), y = .int .i64 m ∧ m ≤ 6 ∧ l.length + m ≤ 6 ∧ DrB w wr b (K + 10 + 50 * (6 - (m : Int))) x l) (fun x y _ => (intOf y).toNat)
  case atStart => exact ⟨M, [], rfl, by omega, by simp; omega, HDD.out.le (by omega)⟩
  case round =>
    obtain ⟨m, l, rfl, hm, hla, hD⟩ := hrel
    obtain ⟨aoa, ca, hfa⟩ := hD.rx.form
    subst hfa
    by_cases hpos : 0 < m
    · have dp : decide ((0 : Int) < (m : Int)) = true := by simp; omega
      have dp2 : decide (0 < m) = true := by simp; omega
      obtain ⟨m', hm'⟩ : ∃ m', m = m' + 1 := ⟨m - 1, by omega⟩
      have hw1 : IntKind.i64.wrap ((m : Int) - 1) = (m' : Int) := by rw [IntWalk.i64_in _ (by omega)]; omega
      have HM' : Hid (m = m' + 1) := hm'
      obtain ⟨KK, hKK⟩ : ∃ KK : Int, KK = K + 10 + 50 * (6 - (m : Int)) := ⟨_, rfl⟩
      rw [← hKK] at hD
      have HKK : Hid (KK = K + 10 + 50 * (6 - (m : Int))) := hKK
      have hKb : KK ≤ K + 310 := by omega
      have HD1 : Hid (DrB w wr b KK (.slice aoa l.length ca) l) := hD
      clear hm' hpos hD hKK
      repeat (first | go_values | go_skip | go_guarded | go_step | go_upon)
      go_at_call 83
      refine (act_ok _ _ KK HD1.out.cur (by omega)).mono ?_
      rintro e w2 ⟨nm, rfl, hnm, hC2, hg2⟩
      dsimp only
      have HD2 : Hid (DrB w w2 b (KK + 2) (.slice aoa l.length ca) l) := HD1.out.draw hg2 hC2
      clear hC2 hg2 HD1
      repeat (first | go_values | go_skip | go_guarded | go_step | go_upon)
      go_at_call 84
      refine (chord_ok _ _ (KK + 2) HD2.out.cur (by omega)).mono ?_
      rintro e w3 ⟨ch, vc, rfl, hch, oc, hC3, hg3⟩
      dsimp only
      obtain ⟨a6, p6, hf6⟩ := oc.form
      subst hf6
      have HD3 : Hid (DrB w w3 b (KK + 2 + 40) (.slice aoa l.length ca) l) := HD2.out.draw hg3 hC3
      have HOC : Hid (NumAt w3 (.slice a6 ch.length p6) ch) := oc.at
      clear hC3 hg3 HD2 oc
      repeat (first | go_values | go_skip | go_guarded | go_step | go_upon)
      go_at_call 18
      refine (srebind l nm ch aoa ca a6 p6 _ HD3.out.rx.at (cap_binds HD3.out.rx) HOC.out (small_cost HD3.out.small (by omega)) (by omega) (by omega)).mono ?_
      have HSR := hide (fun hk => small_reb (l := l) (a := nm) (c := ch) HD3.out.small hnm hch hk)
      obtain ⟨L2, t2, ok, hrr⟩ : ∃ L2 t2 ok, rebA l nm ch = (L2, t2, ok) := ⟨_, _, _, rfl⟩
      rw [hrr] at HSR ⊢
      rintro e w4 ⟨v4, rfl, o4, k4⟩
      dsimp only at *
      obtain ⟨a4, c4, hf4⟩ := o4.form
      subst hf4
      cases ok
      · have HD4 : Hid (DrB w w4 b (KK + 2 + 40) (.slice aoa l.length ca) l) := HD3.out.kept k4
        clear o4 k4 HD3 HOC HSR hrr
        repeat (first | go_values | go_skip | go_guarded | go_step | go_upon)
        have e1 := HM'.out
        have e2 := HKK.out
        exact ⟨⟨m', l, by first | rfl | (congr 1), by omega, by omega, HD4.out.le (K' := K + 10 + 50 * (6 - (m' : Int))) (by omega)⟩, by simp [intOf]; omega⟩
      · obtain ⟨hs4, hl4⟩ := HSR.out rfl
        have HD4 : Hid (DrB w w4 b (KK + 2 + 40) (.slice a4 L2.length c4) L2) := HD3.out.new k4 o4 hs4
        clear o4 k4 HD3 HOC HSR hrr
        repeat (first | go_values | go_skip | go_guarded | go_step | go_upon)
        have e1 := HM'.out
        have e2 := HKK.out
        exact ⟨⟨m', L2, by first | rfl | (congr 1), by omega, by omega, HD4.out.le (K' := K + 10 + 50 * (6 - (m' : Int))) (by omega)⟩, by simp [intOf]; omega⟩
    · have hm0 : m = 0 := by omega
      subst hm0
      have HDr : Hid (DrB w wr b (K + 400) (.slice aoa l.length ca) l) := hD.le (by omega)
      clear hD
      repeat (first | go_values | go_skip | go_guarded | go_step | go_upon)
      go_at_call 85
      refine (one_ok _ b (K + 400) 30 HDr.out.cur (by omega) (by omega)).mono ?_
      rintro e w5 ⟨yes, rfl, hC5, hg5⟩
      dsimp only
      have HD5 : Hid (DrB w w5 b (K + 400 + 2) (.slice aoa l.length ca) l) := HDr.out.draw hg5 hC5
      clear HDr hC5 hg5
      cases yes
      · repeat (first | go_values | go_skip | go_guarded | go_step | go_upon)
        go_ret
        exact ⟨l, _, rfl, by omega, HD5.out.small, HD5.out.rx, HD5.out.cur.le (by omega), HD5.out.but⟩
      have zl := HD5.out.lo
      have z5 := HD5.out.sz
      have HT := hide (tex_at w5 oddL 300 (by decide))
      have HD6 := hide (HD5.out.kept ((But.refl _ _ w5).alloc (.cells (oddL.map fun z => Value.string z).toArray 9)))
      clear HD5
      repeat (first | go_values | go_skip | go_guarded | go_step | go_upon)
      go_at_call 86
      refine (of_ok _ b w5.heap.size 3 (K + 400 + 2) 300 HD6.out.cur (by omega) (by omega) (by omega) (by omega) HT.out).mono ?_
      rintro e w6 ⟨nm, rfl, hnm, hC6, hg6⟩
      dsimp only
      have HD7 := hide (HD6.out.draw hg6 hC6)
      clear HD6 hC6 hg6 HT
      repeat (first | go_values | go_skip | go_guarded | go_step | go_upon)
      go_at_call 84
      refine (chord_ok _ b (K + 400 + 2 + 2) HD7.out.cur (by omega)).mono ?_
      rintro e w7 ⟨ch, vc, rfl, hch, oc, hC7, hg7⟩
      dsimp only
      obtain ⟨a6, p6, hf6⟩ := oc.form
      subst hf6
      have h8 := HD7.out.draw hg7 hC7
      have z7 := HD7.out.sz
      have zg := hg7.size
      have OB7 := hide ((HD7.out.rx.but hg7 (.inr (by omega))).kept ((But.refl _ _ w7).alloc (.cells #[.string nm, .slice a6 ch.length p6] 85)))
      have OC7 := hide ((oc.kept ((But.refl _ _ w7).alloc (.cells #[.string nm, .slice a6 ch.length p6] 85))))
      have HD8 := hide h8
      clear h8 HD7 oc hC7 hg7
      repeat (first | (at_builtin; refine forgetL (fun w' => w' = _) rfl ?_) | go_values | go_skip | go_guarded | go_step | go_upon)
      intro W7 hW7
      rw [hW7]
      clear hW7 W7
      refine appw_binds rfl _ _ rfl (lo := w.heap.size) (mid := w6.heap.size) rfl OB7.out rfl nm a6 p6 ch (Loc.new w7 [.string nm, .slice a6 ch.length p6] 85) OC7.out.low (by omega) (by (try simp); omega) (by omega) ?_
      intro v9 w9 o9 k9 b9 h9
      have hs9 : SmallB (l ++ [(nm, ch)]) := fun d hd => by
        rcases List.mem_append.1 hd with h | h
        · exact HD8.out.small d h
        · rw [List.mem_singleton.1 h]; exact ⟨hnm, hch⟩
      have HB9 := hide (b9.binner OB7.out)
      have HC9 := hide ((HD8.out.cur.alloc (.cells #[.string nm, .slice a6 ch.length p6] 85)).but HB9.out (by omega))
      have HG9 : Hid (But b (b + 1) w w9) := (HD8.out.but.alloc _).above HB9.out
      have HO9 := hide o9
      clear o9 k9 b9 h9 OB7 OC7 HD8 HB9
      (try dsimp only)
      repeat (first | go_values | go_skip | go_guarded | go_step | go_upon)
      go_ret
      exact ⟨_, _, rfl, by simp; omega, hs9, HO9.out, HC9.out.le (by omega), HG9.out⟩

end Go.Proofs.Ythkfpbknfjapaaa
