/-
  SpotOf, in the specification and in the program.
-/
import Derived.Test.YtcljppnakmeldaaWhere
import Derived.Test.YtcljppnakmeldaaGoodS
namespace Go.Proofs.Ytcljppnakmeldaa
open Go.ChangeShapes Go.WideShapes Go.ChangeAt Go.RowKit

theorem end_of {P : Prop} {b : Bool} (hb : b = true ↔ P) {f : FuncId} {args : Array Value} {w : World} (h : Calls Try.prog f args w fun e w' => BoolEnd P e ∧ Kept w w') : Calls Try.prog f args w fun e w' => e = .returned (.bool b) ∧ Kept w w' :=
  h.mono fun _ _ ⟨⟨c, hc, hcp⟩, hk⟩ => ⟨by rw [hc, show c = b from Bool.eq_iff_iff.2 (hcp.trans hb.symm)], hk⟩

/-- From a node of a good scene there is a way up. -/
theorem chain_of {l : List NodeD} (h : GoodL l) : ∀ (a : Int), -1 ≤ a → a < l.length → ∃ xs, Chain l a xs ∧ (xs.length : Int) ≤ a + 1 ∧ ∀ x ∈ xs, GoodS (spotN x.2) := by
  have key : ∀ (n : Nat) (a : Int), (a + 1).toNat ≤ n → -1 ≤ a → a < l.length → ∃ xs, Chain l a xs ∧ (xs.length : Int) ≤ a + 1 ∧ ∀ x ∈ xs, GoodS (spotN x.2) := by
    intro n
    induction n with
    | zero =>
      intro a h1 h2 _
      exact ⟨[], show a = -1 by omega, by simp; omega, by simp⟩
    | succ n ih =>
      intro a h1 h2 h3
      by_cases ha : a = -1
      · exact ⟨[], ha, by simp; omega, by simp⟩
      · obtain ⟨i, rfl⟩ : ∃ i : Nat, a = i := ⟨a.toNat, by omega⟩
        have hi : i < l.length := by omega
        have hok := h.2 i _ (List.getElem?_eq_getElem hi)
        obtain ⟨_, hu1, hu2, hg, _⟩ := hok
        obtain ⟨r, hr, hrl, hrg⟩ := ih (l[i]).2.1 (by omega) hu1 (by omega)
        refine ⟨((i : Int), l[i]) :: r, ⟨i, l[i], rfl, List.getElem?_eq_getElem hi, rfl, hu2, hr⟩, by simp; omega, fun x hx => ?_⟩
        rcases List.mem_cons.1 hx with rfl | hx
        · exact hg
        · exact hrg x hx
  exact fun a h1 h2 => key (a + 1).toNat a (Nat.le_refl _) h1 h2
theorem chain_one {l : List NodeD} : ∀ (xs ys : List UpE) (a : Int), Chain l a xs → Chain l a ys → xs = ys
  | [], [], _, _, _ => rfl
  | [], y :: r, a, h, k => by
    obtain ⟨i, n, rfl, _⟩ := k
    have : ((i : Nat) : Int) = -1 := h
    omega
  | x :: r, [], a, h, k => by
    obtain ⟨i, n, rfl, _⟩ := h
    have : ((i : Nat) : Int) = -1 := k
    omega
  | x :: r, y :: q, a, h, k => by
    obtain ⟨i, n, rfl, hi, rfl, _, hr⟩ := h
    obtain ⟨j, m, hij, hj, rfl, _, hq⟩ := k
    obtain rfl : i = j := by omega
    rw [hi] at hj
    cases hj
    rw [chain_one r q _ hr hq]

open Classical in
/-- What SpotOf answers. -/
noncomputable def spotA (l : List NodeD) (a : Int) : Option SpotD := if h : GoodL l ∧ 0 ≤ a ∧ ∃ xs, Chain l a xs then standM s0 (rows (Classical.choose h.2.2)).reverse else none
theorem spotA_bad {l : List NodeD} {a : Int} (h : ¬ GoodL l) : spotA l a = none := dif_neg (fun hh => h hh.1)
theorem chain_lt {l : List NodeD} {a : Int} {xs : List UpE} (h : Chain l a xs) : a < l.length := by
  cases xs with
  | nil => have : a = -1 := h
           omega
  | cons x r =>
    obtain ⟨i, n, rfl, hi, _⟩ := h
    have := (List.getElem?_eq_some_iff.1 hi).1
    omega
theorem spotA_out {l : List NodeD} {a : Int} (h : ¬ (0 ≤ a ∧ a < l.length)) : spotA l a = none := dif_neg (fun hh => h ⟨hh.2.1, by obtain ⟨xs, hx⟩ := hh.2.2; exact chain_lt hx⟩)
theorem spotA_good {l : List NodeD} {a : Int} (h : GoodL l) (h0 : 0 ≤ a) {xs : List UpE} (hc : Chain l a xs) : spotA l a = standM s0 (rows xs).reverse := by
  have hh : GoodL l ∧ 0 ≤ a ∧ ∃ xs, Chain l a xs := ⟨h, h0, xs, hc⟩
  rw [spotA, dif_pos hh, chain_one _ _ a (Classical.choose_spec hh.2.2) hc]

theorem hasNode (ao : Option Addr) (n cap : Nat) (a : Int) (w : World) : Calls Try.prog 46 #[.slice ao n cap, .int .i64 a] w fun e w' => e = .returned (.bool (decide (0 ≤ a) && decide (a < n))) ∧ w' = w := by
  go_enter Try.func46, Try.ntmps46
  go_wp2
  all_goals
    go_ret
    exact ⟨ret_bool (by rw [Bool.eq_iff_iff]; simp <;> omega), rfl⟩

set_option maxRecDepth 100000 in
set_option maxHeartbeats 4000000 in
theorem implSpotOf (l : List NodeD) (v : Value) (lo hi : Nat) (a : Int) (w : World) (ho : NodeO w lo hi v l) (hn : l.length ≤ 1048576) (hs : ∀ p ∈ l, p.1.size ≤ 1048576) :
    Calls Try.prog 19 #[v, .int .i64 a] w fun e w' => e = .returned (standA (spotA l a)) ∧ Kept w w' := by
  obtain ⟨ao, cap, hsl, hcap⟩ := own_cap ho.1
  subst hsl
  obtain ⟨b, hb⟩ : ∃ b : Bool, (b = true ↔ GoodL l) := by
    by_cases h : GoodL l
    · exact ⟨true, by simp [h]⟩
    · exact ⟨false, by simp [h]⟩
  have HB : Hid (b = true ↔ GoodL l) := hb
  cases b with
  | false =>
    rw [spotA_bad (fun h => by have := hb.2 h; cases this)]
    clear hb
    have q2 : true = true := rfl
    go_enter Try.func19, Try.ntmps19
    repeat (first | (go_at_call 23; refine (end_of HB.out (implGood l _ lo hi _ (ho.kept ((But.refl _ _ w).alloc _)) hn hs)).mono ?_; rintro e w1 ⟨rfl, k1⟩; have L1 := (Loc.new w [.int .i64 0, .int .i64 0, .int .i64 0, .bool false] 24).kept k1; have p0 := L1.cell 0 rfl; have p1 := L1.cell 1 rfl; have p2 := L1.cell 2 rfl; have p3 := L1.cell 3 rfl; have z0 := L1.frozen 0; have z1 := L1.frozen 1; have z2 := L1.frozen 2; have z3 := L1.frozen 3; have hlw := L1.lt; dsimp only) | go_values | go_skip | go_guarded | go_step | go_upon)
    have L1 := (Loc.new w [.int .i64 0, .int .i64 0, .int .i64 0, .bool false] 24).kept k1
    refine bodyPost_ret (v := .tuple #[sv s0, .bool false]) (by simp [results, Try.results19, go_sem, s0, *]) rfl ?_
    refine ⟨rfl, ?_⟩
    have kk : Kept w _ := ((But.refl _ _ w).alloc _).trans k1
    (repeat (first | with_reducible exact kk | with_reducible apply But.drewN | with_reducible apply But.drew | with_reducible apply But.alloc | (with_reducible refine But.setNew ?_ (by simp) _)))
  | true =>
    have hG := hb.1 rfl
    clear hb
    by_cases hr : 0 ≤ a ∧ a < l.length
    · obtain ⟨xs, hch, hxl, hxg⟩ := chain_of hG a (by omega) hr.2
      have q2 : (decide (0 ≤ a) && decide (a < (l.length : Int))) = true := by simp; omega
      have hxm : xs.length ≤ 1048576 := by omega
      rw [spotA_good hG hr.1 hch]
      go_enter Try.func19, Try.ntmps19
      repeat (first | (go_at_call 23; refine (end_of HB.out (implGood l _ lo hi _ (ho.kept ((But.refl _ _ w).alloc _)) hn hs)).mono ?_; rintro e w1 ⟨rfl, k1⟩; have L1 := (Loc.new w [.int .i64 0, .int .i64 0, .int .i64 0, .bool false] 24).kept k1; have p0 := L1.cell 0 rfl; have p1 := L1.cell 1 rfl; have p2 := L1.cell 2 rfl; have p3 := L1.cell 3 rfl; have z0 := L1.frozen 0; have z1 := L1.frozen 1; have z2 := L1.frozen 2; have z3 := L1.frozen 3; have hlw := L1.lt; dsimp only) | (go_at_call 46; refine (hasNode _ _ _ _ _).mono ?_; rintro e w' ⟨rfl, rfl⟩; rw [q2]; dsimp only) | go_values | go_skip | go_guarded | go_step | go_upon)
      go_at_call 51
      refine (standing l _ a xs hch _ (ho.at.kept (((But.refl _ _ w).alloc _).trans k1)) hxm).mono ?_
      rintro e w2 ⟨rfl, k2⟩
      have L2 := L1.kept k2
      clear p0 p1 p2 p3 z0 z1 z2 z3
      have p0 := L2.cell 0 rfl
      have p1 := L2.cell 1 rfl
      have p2 := L2.cell 2 rfl
      have p3 := L2.cell 3 rfl
      have z0 := L2.frozen 0
      have z1 := L2.frozen 1
      have z2 := L2.frozen 2
      have z3 := L2.frozen 3
      have kk : Kept w w2 := (((But.refl _ _ w).alloc _).trans k1).trans k2
      cases hst : standM s0 (rows xs).reverse with
      | none =>
        simp only [standA]
        repeat (first | go_values | go_skip | go_guarded | go_step | go_upon)
        refine bodyPost_ret (v := .tuple #[sv s0, .bool false]) (by simp [results, Try.results19, go_sem, s0, *]) rfl ?_
        refine ⟨by rw [hst]; rfl, ?_⟩
        (repeat (first | with_reducible exact kk | (with_reducible refine But.setNew ?_ (by simp) _)))
      | some s =>
        obtain ⟨sx, sy, st, sf⟩ := s
        simp only [standA]
        repeat (first | go_values | go_skip | go_guarded | go_step | go_upon)
        refine bodyPost_ret (v := .tuple #[sv (sx, sy, st, sf), .bool true]) (by simp [results, Try.results19, go_sem, *]) rfl ?_
        refine ⟨by rw [hst]; rfl, ?_⟩
        (repeat (first | with_reducible exact kk | (with_reducible refine But.setNew ?_ (by simp) _)))
    · have q2 : (decide (0 ≤ a) && decide (a < (l.length : Int))) = false := by simp; omega
      rw [spotA_out (fun h => hr h)]
      go_enter Try.func19, Try.ntmps19
      repeat (first | (go_at_call 23; refine (end_of HB.out (implGood l _ lo hi _ (ho.kept ((But.refl _ _ w).alloc _)) hn hs)).mono ?_; rintro e w1 ⟨rfl, k1⟩; have L1 := (Loc.new w [.int .i64 0, .int .i64 0, .int .i64 0, .bool false] 24).kept k1; have p0 := L1.cell 0 rfl; have p1 := L1.cell 1 rfl; have p2 := L1.cell 2 rfl; have p3 := L1.cell 3 rfl; have z0 := L1.frozen 0; have z1 := L1.frozen 1; have z2 := L1.frozen 2; have z3 := L1.frozen 3; have hlw := L1.lt; dsimp only) | (go_at_call 46; refine (hasNode _ _ _ _ _).mono ?_; rintro e w' ⟨rfl, rfl⟩; rw [q2]; dsimp only) | go_values | go_skip | go_guarded | go_step | go_upon)
      have L1 := (Loc.new w [.int .i64 0, .int .i64 0, .int .i64 0, .bool false] 24).kept k1
      refine bodyPost_ret (v := .tuple #[sv s0, .bool false]) (by simp [results, Try.results19, go_sem, s0, *]) rfl ?_
      refine ⟨rfl, ?_⟩
      have kk : Kept w _ := ((But.refl _ _ w).alloc _).trans k1
      (repeat (first | with_reducible exact kk | with_reducible apply But.drewN | with_reducible apply But.drew | with_reducible apply But.alloc | (with_reducible refine But.setNew ?_ (by simp) _)))

set_option maxRecDepth 100000 in
set_option maxHeartbeats 4000000 in
theorem specSpotOf (l : List NodeD) (v : Value) (lo hi : Nat) (a : Int) (w : World) (ho : NodeO w lo hi v l) (hn : l.length ≤ 1048576) (hs : ∀ p ∈ l, p.1.size ≤ 1048576) :
    Calls Try.prog 25 #[v, .int .i64 a] w fun e w' => e = .returned (standA (spotA l a)) ∧ Kept w w' := by
  obtain ⟨ao, cap, hsl, hcap⟩ := own_cap ho.1
  subst hsl
  obtain ⟨b, hb⟩ : ∃ b : Bool, (b = true ↔ GoodL l) := by
    by_cases h : GoodL l
    · exact ⟨true, by simp [h]⟩
    · exact ⟨false, by simp [h]⟩
  have HB : Hid (b = true ↔ GoodL l) := hb
  cases b with
  | false =>
    rw [spotA_bad (fun h => by have := hb.2 h; cases this)]
    clear hb
    have q2 : true = true := rfl
    go_enter Try.func25, Try.ntmps25
    repeat (first | (go_at_call 21; refine (end_of HB.out (specGood l _ lo hi _ (ho.kept ((But.refl _ _ w).alloc _)) hn hs)).mono ?_; rintro e w1 ⟨rfl, k1⟩; have L1 := (Loc.new w [.int .i64 0, .int .i64 0, .int .i64 0, .bool false] 24).kept k1; have p0 := L1.cell 0 rfl; have p1 := L1.cell 1 rfl; have p2 := L1.cell 2 rfl; have p3 := L1.cell 3 rfl; have z0 := L1.frozen 0; have z1 := L1.frozen 1; have z2 := L1.frozen 2; have z3 := L1.frozen 3; have hlw := L1.lt; dsimp only) | go_values | go_skip | go_guarded | go_step | go_upon)
    have L1 := (Loc.new w [.int .i64 0, .int .i64 0, .int .i64 0, .bool false] 24).kept k1
    refine bodyPost_ret (v := .tuple #[sv s0, .bool false]) (by simp [results, Try.results25, go_sem, s0, *]) rfl ?_
    refine ⟨rfl, ?_⟩
    have kk : Kept w _ := ((But.refl _ _ w).alloc _).trans k1
    (repeat (first | with_reducible exact kk | with_reducible apply But.drewN | with_reducible apply But.drew | with_reducible apply But.alloc | (with_reducible refine But.setNew ?_ (by simp) _)))
  | true =>
    have hG := hb.1 rfl
    clear hb
    by_cases hr : 0 ≤ a ∧ a < l.length
    · obtain ⟨xs, hch, hxl, hxg⟩ := chain_of hG a (by omega) hr.2
      have q2 : inB a 0 ((l.length : Int) - 1) = true := by simp [inB]; omega
      have hxm : xs.length ≤ 1048576 := by omega
      rw [spotA_good hG hr.1 hch]
      go_enter Try.func25, Try.ntmps25
      repeat (first | (go_at_call 21; refine (end_of HB.out (specGood l _ lo hi _ (ho.kept ((But.refl _ _ w).alloc _)) hn hs)).mono ?_; rintro e w1 ⟨rfl, k1⟩; have L1 := (Loc.new w [.int .i64 0, .int .i64 0, .int .i64 0, .bool false] 24).kept k1; have p0 := L1.cell 0 rfl; have p1 := L1.cell 1 rfl; have p2 := L1.cell 2 rfl; have p3 := L1.cell 3 rfl; have z0 := L1.frozen 0; have z1 := L1.frozen 1; have z2 := L1.frozen 2; have z3 := L1.frozen 3; have hlw := L1.lt; dsimp only) | (go_at_call 48; refine (l1In _ _ _ _).mono ?_; rintro e w' ⟨rfl, rfl⟩; rw [q2]; dsimp only) | go_values | go_skip | go_guarded | go_step | go_upon)
      go_at_call 49
      refine (l4Where l _ xs a _ hch (ho.at.kept (((But.refl _ _ w).alloc _).trans k1)) hxg).mono ?_
      rintro e w2 ⟨⟨⟨sx, sy, st, sf⟩, sb, rfl, h1, h2⟩, k2⟩
      have L2 := L1.kept k2
      clear p0 p1 p2 p3 z0 z1 z2 z3
      have p0 := L2.cell 0 rfl
      have p1 := L2.cell 1 rfl
      have p2 := L2.cell 2 rfl
      have p3 := L2.cell 3 rfl
      have z0 := L2.frozen 0
      have z1 := L2.frozen 1
      have z2 := L2.frozen 2
      have z3 := L2.frozen 3
      have hlw2 := L2.lt
      have kk : Kept w w2 := (((But.refl _ _ w).alloc _).trans k1).trans k2
      dsimp only
      cases sb with
      | false =>
        have HN : Hid _ := h2 rfl
        clear h1 h2
        repeat (first | go_values | go_skip | go_guarded | go_step | go_upon)
        refine bodyPost_ret (v := .tuple #[sv s0, .bool false]) (by simp [results, Try.results25, go_sem, s0, *]) rfl ?_
        refine ⟨by rw [HN.out]; rfl, ?_⟩
        (repeat (first | with_reducible exact kk | with_reducible apply But.alloc | (with_reducible refine But.setNew ?_ (by simp) _)))
      | true =>
        have HN : Hid _ := h1 rfl
        clear h1 h2
        repeat (first | go_values | go_skip | go_guarded | go_step | go_upon)
        refine bodyPost_ret (v := .tuple #[sv (sx, sy, st, sf), .bool true]) (by simp [results, Try.results25, go_sem, *]) rfl ?_
        refine ⟨by rw [HN.out]; rfl, ?_⟩
        (repeat (first | with_reducible exact kk | with_reducible apply But.alloc | (with_reducible refine But.setNew ?_ (by simp) _)))
    · have q2 : inB a 0 ((l.length : Int) - 1) = false := by simp [inB]; omega
      rw [spotA_out (fun h => hr h)]
      go_enter Try.func25, Try.ntmps25
      repeat (first | (go_at_call 21; refine (end_of HB.out (specGood l _ lo hi _ (ho.kept ((But.refl _ _ w).alloc _)) hn hs)).mono ?_; rintro e w1 ⟨rfl, k1⟩; have L1 := (Loc.new w [.int .i64 0, .int .i64 0, .int .i64 0, .bool false] 24).kept k1; have p0 := L1.cell 0 rfl; have p1 := L1.cell 1 rfl; have p2 := L1.cell 2 rfl; have p3 := L1.cell 3 rfl; have z0 := L1.frozen 0; have z1 := L1.frozen 1; have z2 := L1.frozen 2; have z3 := L1.frozen 3; have hlw := L1.lt; dsimp only) | (go_at_call 48; refine (l1In _ _ _ _).mono ?_; rintro e w' ⟨rfl, rfl⟩; rw [q2]; dsimp only) | go_values | go_skip | go_guarded | go_step | go_upon)
      have L1 := (Loc.new w [.int .i64 0, .int .i64 0, .int .i64 0, .bool false] 24).kept k1
      refine bodyPost_ret (v := .tuple #[sv s0, .bool false]) (by simp [results, Try.results25, go_sem, s0, *]) rfl ?_
      refine ⟨rfl, ?_⟩
      have kk : Kept w _ := ((But.refl _ _ w).alloc _).trans k1
      (repeat (first | with_reducible exact kk | with_reducible apply But.drewN | with_reducible apply But.drew | with_reducible apply But.alloc | (with_reducible refine But.setNew ?_ (by simp) _)))

end Go.Proofs.Ytcljppnakmeldaa
