/-
  For every two bytes: the law FnRound answers true: sine and cosine lie near the round, the sine of the other way is its opposite, a root's square is not above and the next one's is; that the table starts as the program's text lays it is tied by the given tie.
-/
import Derived.Test.YtocjgpmplmillaaDoorOpen
import Derived.Test.YtocjgpmplmillaaDoorRoundMath
import Derived.Test.YtocjgpmplmillaaDoorRootAll
import Derived.Test.YtocjgpmplmillaaDoorTie
import Derived.Test.YtocjgpmplmillaaDoorCards
import Derived.SizedLaws
import Derived.SevenTiedAt
namespace Go.Proofs.YtocjgpmplmillaaDoor.fnRound
open Go.ChangeShapes Go.WideShapes Go.ChangeAt Go.RowKit
set_option linter.unusedVariables false

def sinL : List Int := [0, 1024, 2048, 3072, 4095, 4096, -1, 9223372036854775807, -9223372036854775808, 1023, 1025]
theorem sinL_bd (z : Int) (h : z ∈ sinL) : -9223372036854775808 ≤ z ∧ z ≤ 9223372036854775807 := by
  simp [sinL] at h
  omega

theorem Code.grown {W W' : World} {ao : Option Addr} {len : Nat} (h : Code W ao len) (g : Grown W W') : Code W' ao len := fun i hi => by
  obtain ⟨ab, off, c, e, hc, hb⟩ := h i hi
  exact ⟨ab, off, c, e, (gcell g ab (off + i) (size_of_cell hc)).trans hc, hb⟩

def Ang (e : Ending) : Prop := ∃ a : Int, e = .returned (.int .i64 a) ∧ -9223372036854775808 ≤ a ∧ a ≤ 9223372036854775807
def Num (e : Ending) : Prop := ∃ a : Int, e = .returned (.int .i64 a)

set_option maxHeartbeats 400000 in
theorem draw_sin (w : World) (ao : Option Addr) (len cap : Nat) (h : Code w ao len) (hl : len ≤ 1048576) :
    Calls Tryd.prog 7 #[.slice ao len cap] w fun e w' => Ang e ∧ Grown w w' := by
  have hC := h.cur (cap := cap) (t := 32) hl
  go_enter Tryd.func7, Tryd.ntmps7
  go_wp2_with fail
  refine (one_ok _ w.heap.size 0 4 hC (by omega) (by omega)).mono ?_
  rintro e w1 ⟨y, rfl, hC1, hg1⟩
  have hlt := hC1.lt
  cases y
  · go_wp2_with fail
    refine (pick_ok _ w.heap.size (0 + 2) 20000 hC1 (by omega) (by omega)).mono ?_
    rintro e w2 ⟨x, rfl, hx, hC2, hg2⟩
    go_wp2_with fail
    go_ret
    exact ⟨⟨x - 8000, rfl, by omega, by omega⟩, (hg1.trans hg2).new⟩
  · go_wp2_with fail
    refine (among_ok _ w.heap.size w1.heap.size (0 + 2) sinL (hC1.grown ((Grown.refl _).alloc _ _)) (by omega) (by omega) (by exact listed_alloc _ sinL) (by decide) (by decide) 11 rfl).mono ?_
    rintro e w2 ⟨z, rfl, hz, hC2, hg2⟩
    go_wp2_with fail
    go_ret
    exact ⟨⟨z, rfl, sinL_bd z hz⟩, (hg1.trans ((GrownBut.of ((Grown.refl _).alloc _ _)).trans hg2)).new⟩

set_option maxHeartbeats 400000 in
theorem draw_root (w : World) (ao : Option Addr) (len cap : Nat) (h : Code w ao len) (hl : len ≤ 1048576) :
    Calls Tryd.prog 13 #[.slice ao len cap] w fun e w' => Num e ∧ Grown w w' := by
  have hC := h.cur (cap := cap) (t := 32) hl
  go_enter Tryd.func13, Tryd.ntmps13
  go_wp2_with fail
  refine (fixed_ok _ w.heap.size 0 hC (by omega)).mono ?_
  rintro e w1 ⟨x, rfl, _, hC1, hg1⟩
  by_cases h1 : x < 0
  · by_cases h2 : -1099511627776 ≤ x
    · go_wp2_with fail
      refine (one_ok _ w.heap.size (0 + 20) 8 hC1 (by omega) (by omega)).mono ?_
      rintro e w2 ⟨y, rfl, hC2, hg2⟩
      cases y
      · go_wp2_with fail
        go_ret
        exact ⟨⟨-x, rfl⟩, (hg1.trans hg2).new⟩
      · go_wp2_with fail
        go_ret
        exact ⟨⟨x, rfl⟩, (hg1.trans hg2).new⟩
    · have d2 : decide (-1099511627776 ≤ x) = false := by simpa using h2
      go_wp2_with fail
      go_ret
      exact ⟨⟨x, rfl⟩, hg1.new⟩
  · have d1 : decide (x < 0) = false := by simpa using h1
    go_wp2_with fail
    go_ret
    exact ⟨⟨x, rfl⟩, hg1.new⟩

def labs (x : Int) : Int := if x < 0 then -x else x
theorem labs_any (x : Int) (w : World) (h : -4611686018427387904 ≤ x) (h' : x ≤ 4611686018427387904) :
    Calls Tryd.prog 12 #[.int .i64 x] w fun e w' => e = .returned (.int .i64 (labs x)) ∧ w' = w := by
  go_enter Tryd.func12, Tryd.ntmps12
  go_wp2
  · go_ret; exact ⟨ret_int (by unfold labs; rw [if_pos (by omega)]), rfl⟩
  · go_ret; exact ⟨ret_int (by unfold labs; rw [if_neg (by omega)]), rfl⟩

theorem root_law (x r : Int) (h0 : 0 ≤ x) (h1 : x ≤ 1073741824) (h : IsRoot (x * 65536) r) : r * r ≤ x * 65536 ∧ x * 65536 < (r + 1) * (r + 1) ∧ (0 ≤ r ∧ r ≤ 8388608) := by
  obtain ⟨a, b, c, d⟩ := h
  have hr : r ≤ 8388608 := by
    rcases Int.lt_or_le 8388608 r with k | k
    · have := sq_mono 8388609 r (by omega) (by omega)
      omega
    · exact k
  rcases d with rfl | d
  · omega
  · exact ⟨c, d, a, hr⟩

set_option maxHeartbeats 4000000 in
theorem walk (ao0 : Option Addr) (len0 cap0 : Nat) (ao1 : Option Addr) (len1 cap1 : Nat) (w : World) (hm0 : len0 ≤ 140737488351232) (hc0 : Code w ao0 len0) (hm1 : len1 ≤ 140737488351232) (hc1 : Code w ao1 len1) (hT : Tab w) :
    Calls Tryd.prog 3 #[.slice ao0 len0 cap0, .slice ao1 len1 cap1] w fun e w' => e = .returned (.bool true) ∧ Grown w w' := by
  by_cases h1 : 1048576 < len0 + len1
  · have h1' : (1048576 : Int) < (len0 : Int) + (len1 : Int) := by omega
    go_enter Tryd.func3, Tryd.ntmps3
    go_wp2_with fail
    go_ret
    exact ⟨rfl, Grown.refl _⟩
  have h2 : len0 ≤ 1048576 := by omega
  have h2' : len1 ≤ 1048576 := by omega
  have h3 : decide ((1048576 : Int) < (len0 : Int) + (len1 : Int)) = false := by simp; omega
  clear h1
  go_enter Tryd.func3, Tryd.ntmps3
  go_wp2_with fail
  refine (draw_sin _ ao0 len0 cap0 hc0 h2).mono ?_
  rintro e w1 ⟨⟨a, rfl, a1, a2⟩, hg1⟩
  have hT1 := hT.grown hg1
  go_wp2_with fail
  refine (isin_any a _ hT1).mono ?_
  rintro e w2 ⟨rfl, hg2⟩
  have hT2 := hT1.grown hg2
  go_wp2_with fail
  refine (icos_any a _ hT2).mono ?_
  rintro e w3 ⟨rfl, hg3⟩
  have hT3 := hT2.grown hg3
  go_wp2_with fail
  refine (ssin_any a _ a1 a2).mono ?_
  rintro e w4 ⟨rfl, hg4⟩
  have hT4 := hT3.grown hg4
  go_wp2_with fail
  refine (scos_any a _ a1 a2).mono ?_
  rintro e w5 ⟨rfl, hg5⟩
  have hT5 := hT4.grown hg5
  have g5 := gtrans (gtrans (gtrans (gtrans hg1 hg2) hg3) hg4) hg5
  have bs := sinM_bd a
  have bc := cosM_bd a
  have ss := mul_abs (sinM a) (sinM a) 65536 65536 bs.1 bs.2 bs.1 bs.2
  have cc := mul_abs (cosM a) (cosM a) 65536 65536 bc.1 bc.2 bc.1 bc.2
  have rn := round_near a
  clear hT hT1 hT2 hT3 hT4 hg1 hg2 hg3 hg4 hg5
  go_wp2_with fail
  have ld : labs (sinM a * sinM a + cosM a * cosM a - 4294967296) ≤ 42949672 := by unfold labs; split <;> omega
  have ld' : decide (42949672 < labs (sinM a * sinM a + cosM a * cosM a - 4294967296)) = false := by simp; omega
  refine (labs_any (sinM a * sinM a + cosM a * cosM a - 4294967296) _ (by omega) (by omega)).mono ?_
  rintro e w6 ⟨rfl, rfl⟩
  by_cases ha : -1000000 < a ∧ a < 1000000
  · obtain ⟨e1, e2⟩ := ha
    go_wp2_with fail
    refine (isin_any (-a) _ hT5).mono ?_
    rintro e wa ⟨rfl, hga⟩
    rw [round_neg a]
    have hTa := hT5.grown hga
    go_wp2_with fail
    refine (isin_any (a + 4096) _ hTa).mono ?_
    rintro e wb ⟨rfl, hgb⟩
    rw [sinM_add a]
    have g6 := gtrans g5 (gtrans hga hgb)
    have hc6 := Code.grown hc1 g6
    clear hT5 hga hgb hTa g5 ss cc rn ld ld' hc0 hc1
    go_wp2_with fail
    refine (draw_root _ ao1 len1 cap1 hc6 h2').mono ?_
    rintro e w7 ⟨⟨x, rfl⟩, hg7⟩
    have g7 := gtrans g6 hg7
    clear hg7 g6 hc6
    by_cases hx : x < 0 ∨ 1073741824 < x
    · go_wp2_with fail
      by_cases hy : x < 0 ∨ 1099511627776 < x
      · refine (iroot_no x _ hy).mono ?_
        rintro e w8 ⟨rfl, rfl⟩
        by_cases hz : x < 0
        · go_wp2_with fail
          refine (sroot_no x _ hy).mono ?_
          rintro e w9 ⟨rfl, rfl⟩
          go_wp2_with fail
          go_ret
          exact ⟨rfl, g7⟩
        · have dz : decide (x < 0) = false := by simpa using hz
          have dz' : 1073741824 < x := by omega
          go_wp2_with fail
          refine (sroot_no x _ hy).mono ?_
          rintro e w9 ⟨rfl, rfl⟩
          go_wp2_with fail
          go_ret
          exact ⟨rfl, g7⟩
      · have y0 : 0 ≤ x := by omega
        have y1 : x ≤ 1099511627776 := by omega
        have dz : decide (x < 0) = false := by simp; omega
        have dz' : 1073741824 < x := by omega
        clear hx hy
        refine (iroot_yes x _ y0 y1).mono ?_
        rintro e w8 ⟨⟨q, rfl, hq⟩, hg8⟩
        go_wp2_with fail
        refine (sroot_yes x _ y0 y1).mono ?_
        rintro e w9 ⟨⟨q2, rfl, hq2⟩, hg9⟩
        obtain rfl := hq.eq hq2
        go_wp2_with fail
        go_ret
        exact ⟨rfl, gtrans g7 (gtrans hg8 hg9)⟩
    · have y0 : 0 ≤ x := by omega
      have y1 : x ≤ 1073741824 := by omega
      have dz : decide (x < 0) = false := by simp; omega
      have dz' : decide (1073741824 < x) = false := by simp; omega
      clear hx
      go_wp2_with fail
      refine (iroot_yes x _ y0 (by omega)).mono ?_
      rintro e w8 ⟨⟨r, rfl, hr⟩, hg8⟩
      obtain ⟨k1, k2, k3, k4⟩ := root_law x r y0 y1 hr
      have k5 := mul_bd r r 8388608 8388608 k3 k4 k3 k4
      have k6 := mul_bd (r + 1) (r + 1) 8388609 8388609 (by omega) (by omega) (by omega) (by omega)
      go_wp2_with fail
      go_ret
      exact ⟨rfl, gtrans g7 hg8⟩
  · have g6 := g5
    have hc6 := Code.grown hc1 g6
    clear hT5 g5 ss cc rn hc0 hc1
    by_cases e1 : -1000000 < a
    · have e2 : decide (a < 1000000) = false := by simp; omega
      clear ha
      go_wp2_with fail
      refine (draw_root _ ao1 len1 cap1 hc6 h2').mono ?_
      rintro e w7 ⟨⟨x, rfl⟩, hg7⟩
      have g7 := gtrans g6 hg7
      clear hg7 g6 hc6
      by_cases hx : x < 0 ∨ 1073741824 < x
      · go_wp2_with fail
        by_cases hy : x < 0 ∨ 1099511627776 < x
        · refine (iroot_no x _ hy).mono ?_
          rintro e w8 ⟨rfl, rfl⟩
          by_cases hz : x < 0
          · go_wp2_with fail
            refine (sroot_no x _ hy).mono ?_
            rintro e w9 ⟨rfl, rfl⟩
            go_wp2_with fail
            go_ret
            exact ⟨rfl, g7⟩
          · have dz : decide (x < 0) = false := by simpa using hz
            have dz' : 1073741824 < x := by omega
            go_wp2_with fail
            refine (sroot_no x _ hy).mono ?_
            rintro e w9 ⟨rfl, rfl⟩
            go_wp2_with fail
            go_ret
            exact ⟨rfl, g7⟩
        · have y0 : 0 ≤ x := by omega
          have y1 : x ≤ 1099511627776 := by omega
          have dz : decide (x < 0) = false := by simp; omega
          have dz' : 1073741824 < x := by omega
          clear hx hy
          refine (iroot_yes x _ y0 y1).mono ?_
          rintro e w8 ⟨⟨q, rfl, hq⟩, hg8⟩
          go_wp2_with fail
          refine (sroot_yes x _ y0 y1).mono ?_
          rintro e w9 ⟨⟨q2, rfl, hq2⟩, hg9⟩
          obtain rfl := hq.eq hq2
          go_wp2_with fail
          go_ret
          exact ⟨rfl, gtrans g7 (gtrans hg8 hg9)⟩
      · have y0 : 0 ≤ x := by omega
        have y1 : x ≤ 1073741824 := by omega
        have dz : decide (x < 0) = false := by simp; omega
        have dz' : decide (1073741824 < x) = false := by simp; omega
        clear hx
        go_wp2_with fail
        refine (iroot_yes x _ y0 (by omega)).mono ?_
        rintro e w8 ⟨⟨r, rfl, hr⟩, hg8⟩
        obtain ⟨k1, k2, k3, k4⟩ := root_law x r y0 y1 hr
        have k5 := mul_bd r r 8388608 8388608 k3 k4 k3 k4
        have k6 := mul_bd (r + 1) (r + 1) 8388609 8388609 (by omega) (by omega) (by omega) (by omega)
        go_wp2_with fail
        go_ret
        exact ⟨rfl, gtrans g7 hg8⟩
    · have e2 : decide (-1000000 < a) = false := by simpa using e1
      clear ha
      go_wp2_with fail
      refine (draw_root _ ao1 len1 cap1 hc6 h2').mono ?_
      rintro e w7 ⟨⟨x, rfl⟩, hg7⟩
      have g7 := gtrans g6 hg7
      clear hg7 g6 hc6
      by_cases hx : x < 0 ∨ 1073741824 < x
      · go_wp2_with fail
        by_cases hy : x < 0 ∨ 1099511627776 < x
        · refine (iroot_no x _ hy).mono ?_
          rintro e w8 ⟨rfl, rfl⟩
          by_cases hz : x < 0
          · go_wp2_with fail
            refine (sroot_no x _ hy).mono ?_
            rintro e w9 ⟨rfl, rfl⟩
            go_wp2_with fail
            go_ret
            exact ⟨rfl, g7⟩
          · have dz : decide (x < 0) = false := by simpa using hz
            have dz' : 1073741824 < x := by omega
            go_wp2_with fail
            refine (sroot_no x _ hy).mono ?_
            rintro e w9 ⟨rfl, rfl⟩
            go_wp2_with fail
            go_ret
            exact ⟨rfl, g7⟩
        · have y0 : 0 ≤ x := by omega
          have y1 : x ≤ 1099511627776 := by omega
          have dz : decide (x < 0) = false := by simp; omega
          have dz' : 1073741824 < x := by omega
          clear hx hy
          refine (iroot_yes x _ y0 y1).mono ?_
          rintro e w8 ⟨⟨q, rfl, hq⟩, hg8⟩
          go_wp2_with fail
          refine (sroot_yes x _ y0 y1).mono ?_
          rintro e w9 ⟨⟨q2, rfl, hq2⟩, hg9⟩
          obtain rfl := hq.eq hq2
          go_wp2_with fail
          go_ret
          exact ⟨rfl, gtrans g7 (gtrans hg8 hg9)⟩
      · have y0 : 0 ≤ x := by omega
        have y1 : x ≤ 1073741824 := by omega
        have dz : decide (x < 0) = false := by simp; omega
        have dz' : decide (1073741824 < x) = false := by simp; omega
        clear hx
        go_wp2_with fail
        refine (iroot_yes x _ y0 (by omega)).mono ?_
        rintro e w8 ⟨⟨r, rfl, hr⟩, hg8⟩
        obtain ⟨k1, k2, k3, k4⟩ := root_law x r y0 y1 hr
        have k5 := mul_bd r r 8388608 8388608 k3 k4 k3 k4
        have k6 := mul_bd (r + 1) (r + 1) 8388609 8388609 (by omega) (by omega) (by omega) (by omega)
        go_wp2_with fail
        go_ret
        exact ⟨rfl, gtrans g7 hg8⟩

theorem bytes5 : Tryd.prog.bytesOf 5 = 1 := by kernel_rfl

theorem len_of {H : Type} {enc : TypeId × Value → H} {W : World} {ao : Option Addr} {len cap : Nat} {d0 : DataW H} {p0 : List MemPlace}
    (h0 : DataW.Trod enc Tryd.prog W 0 (fun _ => true) true 22 (.slice ao len cap) d0 p0) : len = 0 ∨ ∃ es sp, d0 = .slice es sp ∧ len ≤ es.length + sp.length := by
  obtain ⟨fuel, hf⟩ := h0
  rcases open_ints Tryd.underlying22 Tryd.underlying5 cellsByte hf with ⟨hcs, hx⟩ | ⟨a, len', cap', zs, hcs, _, hl, hm, hz, hx, hcell, hwz⟩
  · simp [Value.cells] at hcs
    exact Or.inl hcs.2.1
  · simp [Value.cells] at hcs
    obtain ⟨rfl, rfl, rfl⟩ := hcs
    simp only [Prod.mk.injEq] at hx
    obtain ⟨rfl, rfl⟩ := hx
    simp only [if_true] at hz
    refine Or.inr ⟨_, _, rfl, ?_⟩
    simp [lits]
    omega

set_option maxRecDepth 100000 in
theorem lifted (os : Os) (started : os.Started) (H : Type) (enc : TypeId × Value → H) :
    ReturnsInHanded {} Tryd.checked os 3 .any (fun w args => (Rows.fnRoundSpec.pre enc Tryd.prog Tryd.f3 [] false w args ∧ laidMetH Tryd.prog laid1 w) ∧ sizedMet enc Tryd.prog Tryd.f3 (OpenSpec.ofChange Rows.fnRoundSpec) false w args)
      (Rows.fnRoundSpec.post enc Tryd.prog Tryd.f3 false true false false) := by
  refine returnsInHanded_of_change_and (C := Tryd.checked) (X := fun w _ => laidMetH Tryd.prog laid1 w) (fun _ _ _ hh h => h.of_heap hh) own started (by kernel_rfl) Tryd.func3
    (ChangeSpec.witness_shaped (enc := enc) (C := Tryd.checked) (os := os) (X := fun w _ => laidMetH Tryd.prog laid1 w) false (World.doorLaid Tryd.prog 400 os) #[.slice none 0 0, .slice none 0 0] 8 rfl (World.shaped_of_RefB (by kernel_rfl) (by kernel_rfl)) (by kernel_rfl) (by kernel_rfl) (by kernel_rfl) (door_met os _)) ?_
  intro W base args ds gs before hval0 hW _ hsz0 hL _
  have hval : ∀ (j : Nat) t v, Tryd.f3.params[j]? = some t → args[j]? = some v → Value.okWide Tryd.prog W .any base t v := hval0
  have hsz : (DataW.weightsEach Tryd.prog (Tryd.f3.params.toList ++ Rows.fnRoundSpec.plain.varTypes Tryd.prog) (ds ++ gs)).all (· ≤ reachBytes) = true := hsz0
  have hW' := hW
  obtain ⟨p, q, hA0, hV0, rfl, hfz, hnd⟩ := hW
  have hA : DataW.TrodAll enc Tryd.prog W 0 (fun _ => true) true Tryd.f3.params.toList args.toList ds p := hA0
  have hV : DataW.TrodVars enc Tryd.prog W (fun _ => true) ["loop.example/g00064/impl.sineTable"] gs q := hV0
  rw [Tryd.params3] at hA hval hsz
  obtain ⟨v0, vs0, d0, ds0, p0, q0, hargs, rfl, rfl, h0, r0⟩ := trodAll_cons hA
  obtain ⟨v1, vs1, d1, ds1, p1, q1, rfl, rfl, rfl, h1, r1⟩ := trodAll_cons r0
  obtain ⟨rfl, rfl, rfl⟩ := trodAll_nil r1
  obtain rfl : args = #[v0, v1] := by cases args; simp_all
  obtain ⟨ao0, len0, cap0, rfl, hm0, hc0⟩ := code_of (hval 0 22 v0 rfl rfl) h0
  obtain ⟨ao1, len1, cap1, rfl, hm1, hc1⟩ := code_of (hval 1 22 v1 rfl rfl) h1
  have hb0 : len0 ≤ 140737488351232 := by
    rcases len_of h0 with e | ⟨es, sp, rfl, hle⟩
    · omega
    · have := sized_slice hsz (j := 0) (t := 22) rfl rfl Tryd.underlying22
      rw [bytes5] at this
      simp [reachBytes] at this
      omega
  have hb1 : len1 ≤ 140737488351232 := by
    rcases len_of h1 with e | ⟨es, sp, rfl, hle⟩
    · omega
    · have := sized_slice hsz (j := 1) (t := 22) rfl rfl Tryd.underlying22
      rw [bytes5] at this
      simp [reachBytes] at this
      omega
  obtain ⟨g, t, cs, fuel, d, p', rfl, hg, ht, hvar, hd, rfl⟩ := trodVars_one hV
  obtain rfl := Option.some.inj (gTab.symm.trans hg)
  obtain rfl := Option.some.inj (tTab.symm.trans ht)
  have hI := tabIs_of hL
  obtain rfl : cs = cells17 := Option.some.inj (hvar.symm.trans hI)
  obtain ⟨rfl, rfl⟩ := DataW.Trod.unique (v := .agg cells17) ⟨fuel, hd⟩ ⟨3, reads_table enc W _⟩
  have hT := Tab.of hI
  clear hA0 hV0 hval0 hsz0
  refine (walk ao0 len0 cap0 ao1 len1 cap1 W hb0 hc0 hb1 hc1 hT).mono fun e W' ⟨he, hgr⟩ => ?_
  subst he
  have l0 : ∀ x ∈ p0, x.block < W.heap.size := fun x hx => hW'.lt x (by simp [hx])
  have l1 : ∀ x ∈ p1, x.block < W.heap.size := fun x hx => hW'.lt x (by simp [hx])
  exact ⟨_, rfl, post_of_same (pa := p0 ++ (p1 ++ [])) hW' (fun _ _ _ => (trodAll_cons_mk (shut_bool Tryd.underlying4 _) trodAll_mk0))
    (fun sp hsp => trodAll_cons_mk (grown_trod (by kernel_rfl) (of_decide_eq_true (by kernel_rfl)) h0 hgr l0 (fun x hx => hsp x (by simp [hx]))) (trodAll_cons_mk (grown_trod (by kernel_rfl) (of_decide_eq_true (by kernel_rfl)) h1 hgr l1 (fun x hx => hsp x (by simp [hx]))) trodAll_mk0))
    (fun sp _ => vars_again (var_grown hT hgr hvar) sp) (by simp)
    (hgr.frame _) hgr.2.1 (ok_one (by kernel_rfl) rfl (okWide_bool_mk Tryd.underlying4 _))⟩

theorem holds : Rows.FnRoundSaid :=
  OpenClaim.holds_of_wide 3 Tryd.f3 rfl rfl rfl rfl rfl rfl rfl ⟨rfl, rfl, rfl, rfl, rfl⟩ rfl rfl rfl rfl rfl (by kernel_rfl) Tryd.func3 (by kernel_rfl)
    (of_decide_eq_true (by kernel_rfl)) (by unfold Func.isWrapper; first | (rw [if_pos (by decide +kernel)]; kernel_rfl) | (rw [if_neg (by decide +kernel)]; exact ⟨rfl, rfl⟩))
    (fun os started H enc _ => lifted os started H enc)

theorem proved : Rows.FnRoundCardSaid :=
  Claim7.holds_tied_plain_at .later [] [.data] true (true, "16f142150e251f5b7a807395511ea9e6c2eac8210596b8d543622b255f5360c5") false
    holds (fun _ h => by cases h) (by kernel_rfl) (fun _ h => by cases h) fnRound_row_tie rfl ⟨rfl, rfl⟩ (by kernel_rfl) rfl
    (fun f fn hf hfn => by
      obtain rfl : f = 3 := Option.some.inj ((show Tryd.prog.funcNamed "loop.example/g00064/laws.FnRound" = some 3 by kernel_rfl).symm.trans hf) |>.symm
      obtain rfl : fn = Tryd.f3 := (Option.some.inj (Tryd.func3.symm.trans hfn)).symm
      exact ⟨by kernel_rfl, fun j t ht => by
        rw [Tryd.params3] at ht
        have hm : t ∈ [22, 22] := by simpa using Array.mem_of_getElem? ht
        have hall : ([22, 22].all fun u => !Tryd.prog.wantsStandIn u) = true := by kernel_rfl
        exact (show Tryd.prog.wantsStandIn t = false by simpa using List.all_eq_true.1 hall t (by simpa using hm))⟩)
    (by kernel_rfl)
#print axioms proved
end Go.Proofs.YtocjgpmplmillaaDoor.fnRound
