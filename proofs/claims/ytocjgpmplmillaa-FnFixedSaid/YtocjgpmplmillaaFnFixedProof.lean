/-
  For every bytes: the law FnFixed answers true: products hang on no order, what is divided and multiplied again is near, and both answer as the specification says.
-/
import Derived.Test.YtocjgpmplmillaaRows
import Derived.Test.YtocjgpmplmillaaOpen
import Derived.WalkKit
import Derived.ProofKit
import Derived.OpenShut
namespace Go.Proofs.Ytocjgpmplmillaa.fnFixed
open Go.ChangeShapes Go.WideShapes Go.ChangeAt Go.RowKit Plain
set_option linter.unusedVariables false

theorem two_ok (w : World) (ao : Option Addr) (len cap : Nat) (h : Code w ao len) (hl : len ≤ 1048576) :
    Calls Try.prog 27 #[.slice ao len cap] w fun e w' => (∃ x y : Int, e = .returned (.tuple #[.int .i64 x, .int .i64 y])) ∧ Grown w w' := by
  have hC := h.cur (cap := cap) (t := 48) hl
  go_enter Try.func27, Try.ntmps27
  go_wp2_with fail
  refine (fixed_ok _ w.heap.size 0 hC (by omega)).mono ?_
  rintro e w1 ⟨x, rfl, _, hC1, hg1⟩
  go_wp2_with fail
  refine (fixed_ok _ w.heap.size (0 + 20) hC1 (by omega)).mono ?_
  rintro e w2 ⟨y, rfl, _, hC2, hg2⟩
  go_wp2_with fail
  go_ret2
  exact ⟨⟨x, y, rfl⟩, (hg1.trans hg2).new⟩

theorem draw_ok (w : World) (ao : Option Addr) (len cap : Nat) (h : Code w ao len) (hl : len ≤ 1048576) :
    Calls Try.prog 11 #[.slice ao len cap] w fun e w' => (∃ x y : Int, e = .returned (.tuple #[.int .i64 x, .int .i64 y])) ∧ Grown w w' := by
  go_enter Try.func11, Try.ntmps11
  go_wp2_with (go_at_call 27; refine (two_ok _ ao len cap h hl).mono ?_; rintro e w1 ⟨⟨x, y, rfl⟩, hg1⟩)
  go_ret2
  exact ⟨⟨x, y, rfl⟩, hg1⟩

theorem mul_comm' (a b : Int) : mulM b a = mulM a b := by
  unfold mulM
  rw [Int.mul_comm b a]
  by_cases h : (-1099511627776 ≤ a ∧ a ≤ 1099511627776) ∧ (-1099511627776 ≤ b ∧ b ≤ 1099511627776)
  · rw [if_pos h, if_pos ⟨h.2, h.1⟩]
  · rw [if_neg h, if_neg (fun k => h ⟨k.2, k.1⟩)]

def labs (x : Int) : Int := if x < 0 then -x else x
theorem labs_any (x : Int) (w : World) (h : -4611686018427387904 ≤ x) (h' : x ≤ 4611686018427387904) :
    Calls Try.prog 17 #[.int .i64 x] w fun e w' => e = .returned (.int .i64 (labs x)) ∧ w' = w := by
  go_enter Try.func17, Try.ntmps17
  go_wp2
  · go_ret; exact ⟨ret_int (by unfold labs; rw [if_pos (by omega)]), rfl⟩
  · go_ret; exact ⟨ret_int (by unfold labs; rw [if_neg (by omega)]), rfl⟩

theorem cutM_bd (n : Int) : -1099511627776 ≤ cutM n ∧ cutM n ≤ 1099511627776 := by
  unfold cutM
  repeat' split
  all_goals omega
theorem mulM_bd (a b : Int) : -1099511627776 ≤ mulM a b ∧ mulM a b ≤ 1099511627776 := by
  unfold mulM
  split
  · exact cutM_bd _
  · omega
theorem divM_bd (a b : Int) : -1099511627776 ≤ divM a b ∧ divM a b ≤ 1099511627776 := by
  unfold divM
  split
  · split <;> exact cutM_bd _
  · omega

theorem near_core (S B : Int) (hB : 0 < B) (hS : -1099511627776 ≤ S ∧ S ≤ 1099511627776) (hq : labs (nearM (S * 65536) B) ≠ 1099511627776) :
    2 * (nearM (S * 65536) B * B) ≤ 131072 * S + B ∧ 131072 * S + B < 2 * (nearM (S * 65536) B * B) + 2 * B := by
  have e : nearM (S * 65536) B = (2 * (S * 65536) + B) / (2 * B) := by
    have h := hq
    unfold nearM at h ⊢
    generalize (2 * (S * 65536) + B) / (2 * B) = x at *
    unfold labs cutM at h
    unfold cutM
    by_cases h1 : x > 1099511627776
    · rw [if_pos h1] at h
      exact absurd rfl h
    · by_cases h2 : x < -1099511627776
      · rw [if_neg h1, if_pos h2] at h
        exact absurd rfl h
      · rw [if_neg h1, if_neg h2]
  rw [e]
  have m1 := Int.mul_ediv_add_emod (2 * (S * 65536) + B) (2 * B)
  have m2 := Int.emod_nonneg (2 * (S * 65536) + B) (b := 2 * B) (by omega)
  have m3 := Int.emod_lt_of_pos (2 * (S * 65536) + B) (b := 2 * B) (by omega)
  generalize (2 * (S * 65536) + B) / (2 * B) = x at *
  have e2 : 2 * B * x = 2 * (x * B) := by rw [Int.mul_assoc, Int.mul_comm B x]
  rw [e2] at m1
  omega

theorem near_back (a b : Int) (ha : -1099511627776 ≤ a) (ha' : a ≤ 1099511627776) (hb : -1099511627776 ≤ b) (hb' : b ≤ 1099511627776) (h0 : b ≠ 0) (hq : labs (divM a b) ≠ 1099511627776) :
    labs (mulM (divM a b) b - a) ≤ labs b / 131072 + 1 := by
  have hd := divM_bd a b
  have em : mulM (divM a b) b = nearM (divM a b * b) 65536 := if_pos ⟨hd, hb, hb'⟩
  rw [em]
  have ed : divM a b = if b < 0 then nearM (-a * 65536) (-b) else nearM (a * 65536) b := if_pos ⟨⟨ha, ha'⟩, ⟨hb, hb'⟩, h0⟩
  rcases Int.lt_or_le b 0 with s | s
  · rw [if_pos s] at ed
    rw [ed] at hq ⊢
    obtain ⟨k1, k2⟩ := near_core (-a) (-b) (by omega) (by omega) hq
    generalize nearM (-a * 65536) (-b) = q at *
    rw [Int.mul_neg q b] at k1 k2
    generalize q * b = P at *
    unfold nearM cutM labs
    repeat' split
    all_goals omega
  · rw [if_neg (by omega)] at ed
    rw [ed] at hq ⊢
    obtain ⟨k1, k2⟩ := near_core a b (by omega) ⟨ha, ha'⟩ hq
    generalize nearM (a * 65536) b = q at *
    generalize q * b = P at *
    unfold nearM cutM labs
    repeat' split
    all_goals omega

theorem own : ownKnob Try.prog.godebug = none := by kernel_rfl

set_option maxHeartbeats 2000000 in
theorem walk (ao : Option Addr) (len cap : Nat) (w : World) (hm : len ≤ maxLen) (hc : Code w ao len) :
    Calls Try.prog 3 #[.slice ao len cap] w fun e w' => e = .returned (.bool true) ∧ Grown w w' := by
  unfold maxLen at hm
  by_cases h1 : 1048576 < len
  · go_enter Try.func3, Try.ntmps3
    go_wp2_with fail
    go_ret
    exact ⟨rfl, Grown.refl _⟩
  have h2 : len ≤ 1048576 := by omega
  have h3 : decide (1048576 < (len : Int)) = false := by simp; omega
  clear h1
  go_enter Try.func3, Try.ntmps3
  go_wp2_with fail
  refine (draw_ok _ ao len cap hc h2).mono ?_
  rintro e w1 ⟨⟨a, b, rfl⟩, hg1⟩
  go_wp2_with fail
  refine (imul_any a b _).mono ?_
  rintro e w2 ⟨rfl, rfl⟩
  go_wp2_with fail
  refine (smul_any a b _).mono ?_
  rintro e w3 ⟨rfl, hg3⟩
  go_wp2_with fail
  refine (imul_any a b _).mono ?_
  rintro e w4 ⟨rfl, rfl⟩
  go_wp2_with fail
  refine (imul_any b a _).mono ?_
  rintro e w5 ⟨rfl, rfl⟩
  rw [mul_comm' a b]
  go_wp2_with fail
  refine (idiv_any a b _).mono ?_
  rintro e w6 ⟨rfl, rfl⟩
  go_wp2_with fail
  refine (sdiv_any a b _).mono ?_
  rintro e w7 ⟨rfl, hg7⟩
  have g := gtrans (gtrans hg1 hg3) hg7
  have hd := divM_bd a b
  by_cases ga : a < -1099511627776 ∨ 1099511627776 < a
  · go_wp2_with fail
    refine (gs_no a _ ga).mono ?_
    rintro e w8 ⟨rfl, rfl⟩
    go_wp2_with fail
    go_ret
    exact ⟨rfl, g⟩
  have a1 : -1099511627776 ≤ a := by omega
  have a2 : a ≤ 1099511627776 := by omega
  clear ga
  go_wp2_with fail
  refine (gs_yes a _ a1 a2).mono ?_
  rintro e w8 ⟨rfl, rfl⟩
  by_cases gb : b < -1099511627776 ∨ 1099511627776 < b
  · go_wp2_with fail
    refine (gs_no b _ gb).mono ?_
    rintro e w9 ⟨rfl, rfl⟩
    go_wp2_with fail
    go_ret
    exact ⟨rfl, g⟩
  have b1 : -1099511627776 ≤ b := by omega
  have b2 : b ≤ 1099511627776 := by omega
  clear gb
  go_wp2_with fail
  refine (gs_yes b _ b1 b2).mono ?_
  rintro e w9 ⟨rfl, rfl⟩
  by_cases hz : b = 0
  · have dz : (b == 0) = true := beq_iff_eq.2 hz
    clear hz
    go_wp2_with fail
    go_ret
    exact ⟨rfl, g⟩
  have dz : (b == 0) = false := beq_eq_false_iff_ne.2 hz
  have hl1 : 0 ≤ labs b ∧ labs b ≤ 1099511627776 := by unfold labs; split <;> omega
  go_wp2_with fail
  refine (labs_any (divM a b) _ (by omega) (by omega)).mono ?_
  rintro e w10 ⟨rfl, rfl⟩
  by_cases hq : labs (divM a b) = 1099511627776
  · have dq : (labs (divM a b) == 1099511627776) = true := beq_iff_eq.2 hq
    clear hq
    go_wp2_with fail
    go_ret
    exact ⟨rfl, g⟩
  have dq : (labs (divM a b) == 1099511627776) = false := beq_eq_false_iff_ne.2 hq
  have hn := near_back a b a1 a2 b1 b2 hz hq
  have hm2 := mulM_bd (divM a b) b
  clear hz hq
  go_wp2_with fail
  refine (imul_any (divM a b) b _).mono ?_
  rintro e w11 ⟨rfl, rfl⟩
  go_wp2_with fail
  refine (labs_any (mulM (divM a b) b - a) _ (by omega) (by omega)).mono ?_
  rintro e w12 ⟨rfl, rfl⟩
  go_wp2_with fail
  refine (labs_any b _ (by omega) (by omega)).mono ?_
  rintro e w13 ⟨rfl, rfl⟩
  go_wp2_with fail
  go_ret
  exact ⟨rfl, g⟩


set_option maxRecDepth 100000 in
theorem lifted (os : Os) (started : os.Started) (H : Type) (enc : TypeId × Value → H) :
    ReturnsInHanded {} Try.checked os 3 .any (Rows.fnFixedSpec.pre6 enc Try.prog Try.f3 Rows.fnFixedRow.domain false) (Rows.fnFixedSpec.post enc Try.prog Try.f3 false true false false) := by
  refine returnsInHanded_of_change (C := Try.checked) own started (by kernel_rfl) Try.func3
    (ChangeSpec.witness6 (enc := enc) (C := Try.checked) false ⟨#[], #[.slice none 0 0], []⟩ 8 (by kernel_rfl) (by kernel_rfl) (by kernel_rfl) (by kernel_rfl)) ?_
  intro W base args ds gs before hval0 hW hcnd _
  have hval : ∀ (j : Nat) t v, Try.f3.params[j]? = some t → args[j]? = some v → Value.okWide Try.prog W .any base t v := hval0
  have hW' := hW
  obtain ⟨p, q, hA0, hV, rfl, hfz, hnd⟩ := hW
  have hA : DataW.TrodAll enc Try.prog W 0 (fun _ => true) true Try.f3.params.toList args.toList ds p := hA0
  rw [Try.params3] at hA hval
  obtain ⟨v0, vs0, d0, ds0, p0, q0, hargs, rfl, rfl, h0, r0⟩ := trodAll_cons hA
  obtain ⟨rfl, rfl, rfl⟩ := trodAll_nil r0
  obtain rfl : args = #[v0] := by cases args; simp_all
  obtain ⟨rfl, rfl⟩ := trodVars_none hV
  obtain ⟨ao0, len0, cap0, rfl, hm0, hc0⟩ := code_of (hval 0 22 v0 rfl rfl) h0
  clear hA0 hval0
  simp only [List.append_nil] at hW'
  refine (walk ao0 len0 cap0 W hm0 hc0).mono fun e W' ⟨he, hg⟩ => ?_
  subst he
  exact ⟨_, rfl, post_of_same (pa := p0 ++ []) (pv := []) hW' (fun _ _ _ => (trodAll_cons_mk (shut_bool Try.underlying4 _) trodAll_mk0)) (fun sp hsp => (trodAll_cons_mk (grown_trod (by kernel_rfl) (of_decide_eq_true (by kernel_rfl)) h0 hg (fun x hx => hW'.lt x (hx)) (fun x hx => hsp x (hx))) trodAll_mk0)) (fun _ _ => rfl) (by simp)
    (hg.frame _) hg.2.1 (ok_one (by kernel_rfl) rfl (okWide_bool_mk Try.underlying4 _))⟩

theorem over : Rows.fnFixedRow.holds Try.pinned (OpenSpec.ofChange Rows.fnFixedSpec) :=
  OpenClaim.holds_of_wide 3 Try.f3 rfl rfl rfl rfl rfl rfl rfl ⟨rfl, rfl, rfl, rfl, rfl⟩ rfl rfl rfl rfl rfl (by kernel_rfl) Try.func3 (by kernel_rfl)
    (of_decide_eq_true (by kernel_rfl)) (by unfold Func.isWrapper; first | (rw [if_pos (by decide +kernel)]; kernel_rfl) | (rw [if_neg (by decide +kernel)]; exact ⟨rfl, rfl⟩))
    (fun os started H enc _ => lifted os started H enc)

theorem proved : Rows.FnFixedSaid := over
#print axioms proved
end Go.Proofs.Ytocjgpmplmillaa.fnFixed
