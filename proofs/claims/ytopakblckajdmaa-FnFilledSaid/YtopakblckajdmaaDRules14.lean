/-
  Drawn rules.
-/
import Derived.Test.YtopakblckajdmaaDField14
import Derived.Test.YtopakblckajdmaaLL
import Derived.Test.YtopakblckajdmaaRules
import Derived.Test.YtopakblckajdmaaZed14
import Derived.Maps.AppendAt
namespace Go.Proofs.Ytopakblckajdmaa
open Go.ChangeShapes Go.WideShapes Go.ChangeAt Go.RowKit

set_option maxRecDepth 100000
set_option linter.unusedVariables false

theorem NumsO.push {w w' : World} {lo M hi hi' : Nat} {v v' u : Value} {rs : List NumsE} {l : List Int} (h : NumsO w lo M v rs) (hu : NumO w M hi u l) (hr : RowO w' lo hi' 26 1 v' (rs.length + 1) (rs.flatMap numsC ++ [u])) (g : w.grownBy w' v.ownBlock) (hM : lo ≤ M) (hMh : M ≤ hi) (hhi : hi ≤ hi') : NumsO w' lo hi' v' (rs ++ [(u, l)]) := by
  have hin : ∀ (i : Nat) (r : NumsE), (rs ++ [(u, l)])[i]? = some r → (i < rs.length ∧ rs[i]? = some r) ∨ (i = rs.length ∧ r = (u, l)) := fun i r hr => by
    by_cases hi : i < rs.length
    · rw [List.getElem?_append_left hi] at hr; exact .inl ⟨hi, hr⟩
    · rw [List.getElem?_append_right (by omega)] at hr
      have : i - rs.length = 0 := by
        by_cases h0 : i - rs.length = 0
        · exact h0
        · rw [List.getElem?_eq_none (by simp; omega)] at hr; cases hr
      rw [this] at hr
      exact .inr ⟨by omega, by simpa using hr.symm⟩
  refine ⟨by simpa [numsC] using hr, fun i r h2 => ?_, fun i j r r' hij h2 h3 => ?_⟩
  · rcases hin i r h2 with ⟨_, h4⟩ | ⟨_, rfl⟩
    · exact RowO.mono (RowO.grown (h.inn i r h4) g (ap_types (h.inn i r h4) h.row (by decide))) (Nat.le_refl _) (by omega)
    · exact RowO.mono (RowO.grown hu g (ap_types hu h.row (by decide))) (by omega) hhi
  · rcases hin i r h2 with ⟨_, h4⟩ | ⟨e4, rfl⟩ <;> rcases hin j r' h3 with ⟨_, h5⟩ | ⟨e5, rfl⟩
    · exact h.apart i j r r' hij h4 h5
    · exact ap_low (h.inn i r h4) hu (.inl (Nat.le_refl _))
    · exact ap_low hu (h.inn j r' h5) (.inr (Nat.le_refl _))
    · omega
theorem NumsO.nil (w : World) (lo hi : Nat) : NumsO w lo hi (.slice none 0 0) [] := ⟨⟨World.ownsRow_nil _ _ _ _, fun g hg => by simp [Value.ownBlock] at hg⟩, fun i r hr => by simp at hr, fun i j r r' _ hr => by simp at hr⟩
def Short (rs : List NumsE) : Prop := ∀ p ∈ rs, p.2.length ≤ 4
theorem Short.nil : Short [] := fun _ h => by cases h
theorem Short.push {rs : List NumsE} {u : Value} {l : List Int} (h : Short rs) (hl : l.length ≤ 4) : Short (rs ++ [(u, l)]) := fun p hp => by
  rcases List.mem_append.1 hp with h1 | h1
  · exact h p h1
  · obtain rfl := List.mem_singleton.1 h1; exact hl

theorem cost5 : ∀ (rs : List NumsE), (∀ p ∈ rs, p.2.length ≤ 5) → lLCost (rs.map Prod.snd) ≤ 6 * rs.length
  | [], _ => by simp [lLCost, lLSum]
  | p :: rs, h => by
    have h1 := cost5 rs (fun q hq => h q (List.mem_cons_of_mem _ hq))
    have h2 := h p (List.mem_cons_self ..)
    simp only [lLCost, lLSum, List.map_cons, List.sum_cons, List.length_cons] at h1 ⊢
    omega
theorem Short.five {rs : List NumsE} (h : Short rs) : ∀ p ∈ rs, p.2.length ≤ 5 := fun p hp => Nat.le_succ_of_le (h p hp)
theorem step_append_own {P : Program} {ops : Array Oper} {o : Oper} {a : Act} {w : World} {K : Act → World → Prop} {Q : Exit → Act → World → Prop} {E : Prop}
    (hg : o.guard = none) (s x : Operand) (t : TypeId) (hop : o.op = Op.call { callee := Callee.builtin Builtin.append, args := #[s, x], argTypes := #[t, t] })
    (base : Nat) (e : TypeId) (i : TypeInfo) (z : Value) (size bytes : Nat) (ht : P.underlying t = some (.slice e)) (hi : P.info? e = some i) (hz : i.zero = some z)
    (hsize : i.size = size) (hby : i.bytes = bytes) (hzs : z.cells.size = size) (hsz : 0 < size)
    (v : Value) (n : Nat) (xs : List Value) (hs : a.eval s = v) (hown : w.ownsRow base e size v n xs)
    (ad : Addr) (m c : Nat) (news : List Value) (hx : a.eval x = .slice (some ad) m c) (hl : news.length = m * size) (hnews : ∀ j u, news[j]? = some u → w.cell? (ad.add j) = some u) (h1 : ∀ u ∈ news, u.oneCell' = true)
    (h63 : n + m ≤ maxLen) (hbytes : (n + m) * bytes ≤ 140737488355328) (hbase : base ≤ w.heap.size)
    (h : ∀ v' w', w'.ownsRow base e size v' (n + m) (xs ++ news) → w.grownBy w' v.ownBlock → K (a.put o.dst v') w') :
    if Region.wanted o (yielded ops a.tmps) = true then Oper.wp P o a w K Q else E := by
  have hw : Region.wanted o (yielded ops a.tmps) = true := by simp [Region.wanted, hg]
  rw [if_pos hw]
  obtain ⟨v', w', hr, h2, h3, -, -⟩ := run_append_own_at (P := P) w base t o.type e i z size bytes ht hi hz hsize hby hzs hsz v n xs hown ad m c news hl hnews h1 h63 hbytes hbase
  exact Lib.wp_append_run w s x t t hop _ _ hs hx _ _ hr (h v' w' h2 h3)

/-- A row of lists, each its own, not said to lie apart. -/
def NumsI (w : World) (lo hi : Nat) (v : Value) (rs : List NumsE) : Prop := RowO w lo hi 26 1 v rs.length (rs.flatMap numsC) ∧ ∀ r ∈ rs, NumO w lo hi r.1 r.2
theorem NumsI.of {w : World} {lo hi : Nat} {v : Value} {rs : List NumsE} (h : NumsO w lo hi v rs) : NumsI w lo hi v rs := ⟨h.row, fun r hr => by
  obtain ⟨i, hi⟩ := List.mem_iff_getElem?.1 hr
  exact h.inn i r hi⟩
theorem NumsI.but {w w' : World} {lo hi lo' hi' : Nat} {v : Value} {rs : List NumsE} (h : NumsI w lo hi v rs) (k : But lo' hi' w w') (ho : hi ≤ lo' ∨ hi' ≤ lo) : NumsI w' lo hi v rs := ⟨RowO.but h.1 k ho, fun r hr => RowO.but (h.2 r hr) k ho⟩
theorem NumsI.at {w : World} {lo hi : Nat} {v : Value} {rs : List NumsE} (h : NumsI w lo hi v rs) : NumsAt w v rs := ⟨own_row h.1.1, fun r hr => own_row (h.2 r hr).1⟩
theorem NumsI.form {w : World} {lo hi : Nat} {v : Value} {rs : List NumsE} (h : NumsI w lo hi v rs) : ∃ ao cap, v = .slice ao rs.length cap := by
  obtain ⟨ao, cap, e, _⟩ := own_form h.1.1
  exact ⟨ao, cap, e⟩
theorem NumsI.low {w : World} {lo hi : Nat} {v : Value} {rs : List NumsE} (h : NumsI w lo hi v rs) : NumsI w lo w.heap.size v rs := ⟨RowO.low h.1, fun r hr => RowO.low (h.2 r hr)⟩
theorem NumsI.mono {w : World} {lo hi lo' hi' : Nat} {v : Value} {rs : List NumsE} (h : NumsI w lo hi v rs) (h1 : lo' ≤ lo) (h2 : hi ≤ hi') : NumsI w lo' hi' v rs := ⟨RowO.mono h.1 h1 h2, fun r hr => RowO.mono (h.2 r hr) h1 h2⟩
def RulesI (w : World) (lo hi : Nat) (v : Value) (r : RulesD) : Prop := ∃ rv dv rs ds, v = .agg #[.int .i64 r.1, rv, dv] ∧ NumsI w lo hi rv rs ∧ NumsI w lo hi dv ds ∧ r.2.1 = rs.map Prod.snd ∧ r.2.2 = ds.map Prod.snd
theorem RulesI.but {w w' : World} {lo hi lo' hi' : Nat} {v : Value} {r : RulesD} (h : RulesI w lo hi v r) (k : But lo' hi' w w') (ho : hi ≤ lo' ∨ hi' ≤ lo) : RulesI w' lo hi v r := by
  obtain ⟨rv, dv, rs, ds, e, h1, h2, h3, h4⟩ := h
  exact ⟨rv, dv, rs, ds, e, h1.but k ho, h2.but k ho, h3, h4⟩
theorem RulesI.at {w : World} {lo hi : Nat} {v : Value} {r : RulesD} (h : RulesI w lo hi v r) : RulesAt w v r := by
  obtain ⟨rv, dv, rs, ds, e, h1, h2, h3, h4⟩ := h
  exact ⟨rv, dv, e, ⟨rs, h1.at, h3.symm⟩, ⟨ds, h2.at, h4.symm⟩⟩
theorem NumsI.step {W7 w8 : World} {lo M g5 cR : Nat} {r0 : NumsE} {v' : Value} {l' : List Int} {rs : List NumsE} (h : NumsO W7 lo M (.slice (some ⟨g5, 0, none⟩) rs.length cR) rs) (h0 : rs[0]? = some r0) (g : W7.grownBy w8 r0.1.ownBlock)
    (hown : w8.ownsRow lo 3 1 v' l'.length (l'.flatMap numC)) (hM : M ≤ w8.heap.size) : NumsI (w8.setCell ⟨g5, 0, none⟩ v') lo w8.heap.size (.slice (some ⟨g5, 0, none⟩) rs.length cR) (rs.set 0 (v', l')) := by
  have hrow := RowO.grown h.row g (ap_types h.row (h.inn 0 r0 h0) (by decide))
  have hset := RowO.set hrow (1 * 0 + 0) v'
  rw [flat_set 1 numsC numsC_len rs 0 0 r0 (v', l') v' h0 (by omega) rfl] at hset
  have hn : RowO w8 lo w8.heap.size 3 1 v' l'.length (l'.flatMap numC) := RowO.top hown
  have hoth : ∀ {u : Value} {l : List Int} {hi : Nat}, RowO w8 lo hi 3 1 u l.length (l.flatMap numC) → hi ≤ w8.heap.size → NumO (w8.setCell ⟨g5, 0, none⟩ v') lo w8.heap.size u l := fun {u l hi} hu hh => by
    have hap := ap_types hu hrow (by decide)
    refine ⟨own_but (lo := g5) (hi := g5 + 1) hu.1 ((But.refl _ _ _).setCell (by simp) (by simp) _) (fun k hk => ?_), fun k hk => by have := hu.2 k hk; omega⟩
    have hne : k ≠ g5 := fun e => hap k hk (by rw [e]; rfl)
    omega
  refine ⟨RowO.mono (by simpa using hset) (Nat.le_refl _) hM, fun r hr => ?_⟩
  obtain ⟨i, hi⟩ := List.mem_iff_getElem?.1 hr
  by_cases hi0 : i = 0
  · subst hi0
    have hlt : 0 < rs.length := by
      cases rs with
      | nil => simp at h0
      | cons _ _ => simp
    rw [List.getElem?_set_self hlt] at hi
    cases hi
    exact hoth hn (Nat.le_refl _)
  · rw [List.getElem?_set_ne (by omega)] at hi
    exact hoth (RowO.grown (h.inn i r hi) g (h.apart i 0 r r0 hi0 hi h0)) hM
theorem five_set {rs : List NumsE} {r0 : NumsE} {v' : Value} {t : Int} (h : Short rs) (h0 : rs[0]? = some r0) : ∀ p ∈ rs.set 0 (v', r0.2 ++ [t]), p.2.length ≤ 5 := fun p hp => by
  rcases List.mem_or_eq_of_mem_set hp with h1 | rfl
  · exact h.five p h1
  · have := h r0 (List.mem_of_getElem? h0)
    simp only [List.length_append, List.length_cons, List.length_nil]
    omega
theorem some_row {w : World} {lo hi : Nat} {v : Value} {rs : List NumsE} (h : NumsO w lo hi v rs) (hn : 0 < rs.length) : ∃ g c, v = .slice (some ⟨g, 0, none⟩) rs.length c := by
  rcases h.row.1.2 with ⟨_, h0⟩ | ⟨g, cap, cur, hv, _⟩
  · omega
  · exact ⟨g, cap, hv⟩

set_option maxHeartbeats 8000000 in
theorem rules_ok (w : World) (b : Nat) (K : Int) (h : CurOk w b K) (hK : 0 ≤ K ∧ K ≤ 1000000) :
    Calls Try.prog 68 #[.pointer (some ⟨b, 0, none⟩)] w fun e w' => ∃ r v', e = .returned v' ∧ RulesI w' w.heap.size w'.heap.size v' r ∧ 0 ≤ r.1 ∧ r.1 ≤ 7 ∧ rulesCost r ≤ 1000 ∧ CurOk w' b (K + 1000) ∧ But b (b + 1) w w' := by
  obtain ⟨i0, hi0, hz0, hz1, hz2⟩ := info_parts info_num
  obtain ⟨i5, hi5, hy0, hy1, hy2⟩ := info_parts info26
  have hbw := h.lt
  go_enter Try.func68, Try.ntmps68
  repeat (first | go_values | go_skip | go_guarded | go_step | go_upon)
  go_at_call 79
  refine (pick_ok _ b K 4 (h.alloc _) (by omega) (by omega)).mono ?_
  rintro e w1 ⟨z1, rfl, hz1', hC1, hg1⟩
  have ZR1 := (Loc.new w [.int .i64 0, .slice none 0 0, .slice none 0 0] 25).cur hg1 (by omega)
  have G1 : But b (b + 1) w w1 := ((But.refl _ _ _).alloc _).trans hg1
  have s1 := ZR1.lt
  obtain ⟨sn, hsn⟩ : ∃ t : Nat, 1 + z1 = (t : Int) := ⟨(1 + z1).toNat, by omega⟩
  have hs4 : 1 ≤ sn ∧ sn ≤ 4 := by omega
  have ewr : IntKind.i64.wrap (sn : Int) = (sn : Int) := IntWalk.i64_in _ (by omega)
  clear hg1
  dsimp only
  repeat (first | go_values | go_skip | go_guarded | go_step | go_upon)
  clear ewr
  obtain ⟨W1, hW1⟩ : ∃ x, x = (w1.alloc (Obj.cells #[.int .i64 (sn : Int), .slice none 0 0, .slice none 0 0] 25)).alloc (Obj.cells #[.int .i64 0, .int .i64 1] 3) := ⟨_, rfl⟩
  rw [← hW1]
  have T1 : Loc W1 w1.heap.size [.int .i64 (sn : Int), .slice none 0 0, .slice none 0 0] := by rw [hW1]; exact (Loc.new w1 _ _).kept ((But.refl _ _ _).alloc _)
  have A1 : Loc W1 (w1.heap.size + 1) [.int .i64 0, .int .i64 1] := by rw [hW1]; simpa using Loc.new (w1.alloc (.cells #[.int .i64 (sn : Int), .slice none 0 0, .slice none 0 0] 25)) [.int .i64 0, .int .i64 1] 3
  have K1 : Kept w1 W1 := by rw [hW1]; exact ((But.refl _ _ _).alloc _).alloc _
  have Z1 := ZR1.kept K1
  have C1 := hC1.kept K1
  have G2 := G1.transK K1
  have hb1 := hC1.lt
  clear hW1 K1 ZR1 hC1 G1
  obtain ⟨T5, hT5⟩ : ∃ t, w1.heap.size = t := ⟨_, rfl⟩
  obtain ⟨A5, hA5⟩ : ∃ t, T5 + 1 = t := ⟨_, rfl⟩
  obtain ⟨B2, hB2⟩ : ∃ t, W1.heap.size = t := ⟨_, rfl⟩
  rw [hT5] at T1 A1 s1 hb1 ⊢
  rw [hA5] at A1 ⊢
  have hab := A1.lt
  rw [hB2] at hab
  have HB : Hid (b < w.heap.size ∧ w.heap.size < T5 ∧ T5 < A5 ∧ A5 < B2) := ⟨hbw, s1, by omega, hab⟩
  repeat (first | go_values | go_skip | go_guarded | go_step | go_upon)
  go_loopw [15] (fun n wr => ∃ (k : Nat) (rs ds : List NumsE) (rv dv : Value) (M : Nat), k ≤ 2 ∧ n = .int .i64 k ∧ (k = 0 → rs = [] ∧ rv = .slice none 0 0) ∧ (0 < k → rs.length = sn) ∧ (k < 2 → ds = [] ∧ dv = .slice none 0 0) ∧ (k = 2 → ds.length = sn) ∧ Short rs ∧ Short ds ∧ Loc wr T5 [.int .i64 (sn : Int), rv, dv] ∧ Loc wr A5 [.int .i64 0, .int .i64 1] ∧ Loc wr w.heap.size [.int .i64 0, .slice none 0 0, .slice none 0 0] ∧ NumsO wr B2 M rv rs ∧ NumsO wr M wr.heap.size dv ds ∧ B2 ≤ M ∧ M ≤ wr.heap.size ∧ CurOk wr b (K + 2 + 40 * (k : Int)) ∧ But b (b + 1) w wr) (fun n _ => 2 - (intOf n).toNat)
  case atStart => exact ⟨0, [], [], _, _, B2, by omega, rfl, fun _ => ⟨rfl, rfl⟩, fun h => by omega, fun _ => ⟨rfl, rfl⟩, fun h => by omega, Short.nil, Short.nil, T1, A1, Z1, NumsO.nil _ _ _, NumsO.nil _ _ _, Nat.le_refl _, by omega, by simpa using C1, G2⟩
  case round =>
    clear T1 A1 Z1 C1 G2 hab hB2 hA5 hT5 s1 hb1 hbw h hz1' hsn
    obtain ⟨k, rs, ds, rv, dv, M, hk, rfl, hr0, hr1, hd0, hd1, hsr, hsd, LT, LA, ZR, NR, ND, hBM, hM, hC, hg⟩ := hrel
    have hbT := HB.out
    by_cases hk2 : k < 2
    · rcases (show k = 0 ∨ k = 1 by omega) with rfl | rfl
      · obtain ⟨rfl, rfl⟩ := hr0 rfl
        obtain ⟨rfl, rfl⟩ := hd0 (by omega)
        have c0 := LA.cell 0 rfl
        clear hr0 hr1 hd0 hd1
        rw [show ((0 : Nat) : Int) = 0 from rfl] at hC ⊢
        repeat (first | go_values | go_skip | go_guarded | go_step | go_upon)
        clear c0
        go_loopw [6] (fun n wr => ∃ (a : Nat) (xs : List NumsE) (xv : Value), a ≤ sn ∧ n = .int .i64 a ∧ xs.length = a ∧ Short xs ∧ Loc wr T5 [.int .i64 (sn : Int), xv, .slice none 0 0] ∧ Loc wr A5 [.int .i64 0, .int .i64 1] ∧ Loc wr w.heap.size [.int .i64 0, .slice none 0 0, .slice none 0 0] ∧ NumsO wr B2 wr.heap.size xv xs ∧ CurOk wr b (K + 2 + 40 * 0 + 8 * (a : Int)) ∧ But b (b + 1) w wr ∧ B2 ≤ wr.heap.size) (fun n _ => sn - (intOf n).toNat)
        case atStart => exact ⟨0, [], _, by omega, rfl, rfl, Short.nil, LT, LA, ZR, NumsO.nil _ _ _, by simpa using hC, hg, by omega⟩
        case round =>
          obtain ⟨a, xs, xv, ha, rfl, hxl, hsh, LT, LA, ZR, NX, hC, hg, hlo⟩ := hrel
          have hbT := HB.out
          have hx4 : xs.length ≤ 4 := by omega
          have HXL : Hid (xs.length = a) := hxl
          clear hxl
          by_cases hlt : a < sn
          · have da : decide ((a : Int) < (sn : Int)) = true := decide_eq_true (by omega)
            have da2 : decide (a < sn) = true := decide_eq_true hlt
            have t0 := LT.cell 0 rfl
            repeat (first | go_values | go_skip | go_guarded | go_step | go_upon)
            clear da da2 t0
            obtain ⟨W0, hW0⟩ : ∃ x, x = wr := ⟨_, rfl⟩
            rw [← hW0] at LT LA ZR NX hC hg hlo ⊢
            clear hW0
            have HX : Hid (Loc W0 A5 [.int .i64 0, .int .i64 1] ∧ Loc W0 w.heap.size [.int .i64 0, .slice none 0 0, .slice none 0 0] ∧ NumsO W0 B2 W0.heap.size xv xs ∧ But b (b + 1) w W0 ∧ Short xs) := ⟨LA, ZR, NX, hg, hsh⟩
            have hbW := hC.lt
            have htW := LT.lt
            clear LA ZR NX hg hsh
            go_loopw [7, 8] (fun x n wr => ∃ (j : Nat) (ys : List Int) (ao : Option Addr) (c : Nat), j ≤ sn ∧ ys.length ≤ j ∧ x = .slice ao ys.length c ∧ n = .int .i64 j ∧ wr.ownsRow W0.heap.size 3 1 (.slice ao ys.length c) ys.length (ys.flatMap numC) ∧ CurOk wr b (K + 2 + 40 * 0 + 8 * (a : Int) + 2 * (j : Int)) ∧ But b (b + 1) W0 wr) (fun x n _ => sn - (intOf n).toNat)
            case atStart => exact ⟨0, [], none, 0, by omega, by simp, rfl, rfl, World.ownsRow_nil _ _ _ _, by simpa using hC, But.refl _ _ _⟩
            case round =>
              clear hC
              obtain ⟨j, ys, ao, c, hj, hyl, rfl, rfl, HO, hC, hg2⟩ := hrel
              have LT2 := LT.cur hg2 (by omega)
              have t0 := LT2.cell 0 rfl
              have hs2 := hg2.size
              by_cases hjl : j < sn
              · have da : decide ((j : Int) < (sn : Int)) = true := decide_eq_true (by omega)
                have da2 : decide (j < sn) = true := decide_eq_true hjl
                have hj1 : IntKind.i64.wrap ((j : Int) + 1) = (j : Int) + 1 := IntWalk.i64_in _ (by omega)
                repeat (first | go_values | go_skip | go_guarded | go_step | go_upon)
                clear da da2 t0
                go_at_call 71
                refine (one_ok _ b _ 3 hC (by omega) (by omega)).mono ?_
                rintro e wc ⟨y2, rfl, hC, hg3⟩
                have HO := own_but HO hg3 (fun g hg => by have := own_lt HO hg; omega)
                have hg4 := hg2.trans hg3
                have hs4 := hg4.size
                clear hg2 hg3 LT2
                cases y2
                · dsimp only
                  have HH : Hid (wc.ownsRow W0.heap.size 3 1 (.slice ao ys.length c) ys.length (ys.flatMap numC) ∧ CurOk wc b (K + 2 + 40 * 0 + 8 * (a : Int) + 2 * (j : Int) + 2) ∧ But b (b + 1) W0 wc) := ⟨HO, hC, hg4⟩
                  clear HO hC hg4
                  repeat (first | (at_builtin; refine forgetL (fun w' => w' = _) rfl ?_) | go_values | go_skip | go_guarded | go_step | go_upon)
                  intro W7 hW7
                  have K7 : Kept wc W7 := by rw [hW7]; exact (But.refl _ _ _).alloc _
                  have N7 : Loc W7 wc.heap.size [.int .i64 (j : Int)] := by rw [hW7]; exact Loc.new wc _ _
                  have s7 := K7.size
                  clear hW7
                  refine wpList_append_own _ rfl _ _ 26 rfl W0.heap.size 3 i0 (.int .i64 0) 1 8 Try.underlying26 hi0 hz0 hz1 hz2 rfl (by decide) (.slice ao ys.length c) ys.length (ys.flatMap numC) rfl (own_kept HH.out.1 K7) ⟨wc.heap.size, 0, none⟩ 1 1 [.int .i64 (j : Int)] rfl rfl (news1 N7) (by simp [Value.oneCell']) (by unfold maxLen; omega) (by omega) (by omega) ?_
                  intro v' w8 hown' hgrow _
                  obtain ⟨ao5, cap5, hf5, _⟩ := own_form hown'
                  subst hf5
                  have C8 := (HH.out.2.1.kept K7).but ((But.refl W0.heap.size W7.heap.size W7).grown hgrow (fun k hk => .inr (own_lt (own_kept HH.out.1 K7) hk))) hbW
                  have G8 : But b (b + 1) W0 w8 := ((HH.out.2.2).transK K7).grown hgrow (fun k hk => .inl (by have := own_lt HH.out.1 hk; omega))
                  clear HH K7 N7 s7 hgrow
                  have HH : Hid (w8.ownsRow W0.heap.size 3 1 (.slice ao5 (ys.length + 1) cap5) (ys.length + 1) (ys.flatMap numC ++ [.int .i64 (j : Int)]) ∧ CurOk w8 b (K + 2 + 40 * 0 + 8 * (a : Int) + 2 * (j : Int) + 2) ∧ But b (b + 1) W0 w8) := ⟨hown', C8, G8⟩
                  clear hown' C8 G8
                  dsimp only
                  repeat (first | go_values | go_skip | go_guarded | go_step | go_upon)
                  refine ⟨⟨j + 1, ys ++ [(j : Int)], ao5, cap5, by omega, by simp; omega, by simp, by simp, by rw [List.flatMap_append, List.length_append]; exact HH.out.1, HH.out.2.1.le (by omega), HH.out.2.2⟩, by simp [intOf]; omega⟩
                · dsimp only
                  repeat (first | go_values | go_skip | go_guarded | go_step | go_upon)
                  refine ⟨⟨j + 1, ys, ao, c, by omega, by omega, rfl, by simp, HO, hC.le (by omega), hg4⟩, by simp [intOf]; omega⟩
              · have da : decide ((j : Int) < (sn : Int)) = false := decide_eq_false (by omega)
                have da2 : decide (j < sn) = false := decide_eq_false hjl
                have t1 := LT2.cell 1 rfl
                have HH : Hid (wr.ownsRow W0.heap.size 3 1 (.slice ao ys.length c) ys.length (ys.flatMap numC) ∧ CurOk wr b (K + 2 + 40 * 0 + 8 * (a : Int) + 2 * (j : Int)) ∧ But b (b + 1) W0 wr ∧ Loc wr T5 [.int .i64 (sn : Int), xv, .slice none 0 0]) := ⟨HO, hC, hg2, LT2⟩
                clear HO hC hg2 LT2
                repeat (first | (at_builtin; refine forgetL (fun w' => w' = _) rfl ?_) | go_values | go_skip | go_guarded | go_step | go_upon)
                clear t0 t1 da da2
                intro W7 hW7
                have K7 : Kept wr W7 := by rw [hW7]; exact (But.refl _ _ _).alloc _
                have N7 : Loc W7 wr.heap.size [.slice ao ys.length c] := by rw [hW7]; exact Loc.new wr _ _
                have s7 := K7.size
                have sr := HH.out.2.2.1.size
                clear hW7
                have NX7 := (HX.out.2.2.1.but HH.out.2.2.1 (by omega)).kept K7
                have NY7 : NumO W7 W0.heap.size W7.heap.size (.slice ao ys.length c) ys := RowO.mono (RowO.kept (RowO.top HH.out.1) K7) (Nat.le_refl _) s7
                obtain ⟨ax, cx, hxv⟩ := NX7.form
                subst hxv
                refine wpList_append_own _ rfl _ _ 23 rfl B2 26 i5 (.slice none 0 0) 1 24 Try.underlying23 hi5 hy0 hy1 hy2 rfl (by decide) (.slice ax xs.length cx) xs.length (xs.flatMap numsC) rfl NX7.row.1 ⟨wr.heap.size, 0, none⟩ 1 1 [.slice ao ys.length c] rfl rfl (news1 N7) (by simp [Value.oneCell']) (by unfold maxLen; omega) (by omega) (by omega) ?_
                intro v' w8 hown' hgrow _
                have NX8 := NX7.push NY7 (RowO.top hown') hgrow hlo (by omega) hgrow.size
                have hbt : ∀ g, (Value.slice ax xs.length cx).ownBlock = some g → B2 ≤ g := fun g hg => (own_lt NX7.row.1 hg).1
                have L8 := (HH.out.2.2.2.kept K7).grown hgrow (fun e => by have := hbt _ e; omega)
                have A8 := ((HX.out.1.cur HH.out.2.2.1 (by omega)).kept K7).grown hgrow (fun e => by have := hbt _ e; omega)
                have Z8 := ((HX.out.2.1.cur HH.out.2.2.1 (by omega)).kept K7).grown hgrow (fun e => by have := hbt _ e; omega)
                have B8 := (But.refl B2 W7.heap.size W7).grown hgrow (fun k hk => .inr (own_lt NX7.row.1 hk))
                have C8 := (HH.out.2.1.kept K7).but B8 (by omega)
                have G8 : But b (b + 1) w w8 := ((HX.out.2.2.2.1.trans HH.out.2.2.1).transK K7).grown hgrow (fun k hk => .inl (by have := hbt _ hk; omega))
                obtain ⟨ao5, cap5, hf5, _⟩ := own_form hown'
                subst hf5
                have x2 := L8.cell 1 rfl
                have x2f := L8.frozen 1
                have M8 := L8.set 1 (.slice ao5 (xs.length + 1) cap5)
                simp only [List.set_cons_zero, List.set_cons_succ] at M8
                have P8 : But T5 (T5 + 1) w8 (w8.setCell ⟨T5, 1, none⟩ (.slice ao5 (xs.length + 1) cap5)) := (But.refl _ _ _).setCell (by simp) (by simp) _
                have hs8 : W0.heap.size ≤ w8.heap.size := by have := hgrow.size; omega
                have ez : (w8.setCell ⟨T5, 1, none⟩ (.slice ao5 (xs.length + 1) cap5)).heap.size = w8.heap.size := by simp
                have HR8 : Hid (Loc (w8.setCell ⟨T5, 1, none⟩ (.slice ao5 (xs.length + 1) cap5)) T5 [.int .i64 (sn : Int), .slice ao5 (xs.length + 1) cap5, .slice none 0 0] ∧ Loc (w8.setCell ⟨T5, 1, none⟩ (.slice ao5 (xs.length + 1) cap5)) A5 [.int .i64 0, .int .i64 1] ∧ Loc (w8.setCell ⟨T5, 1, none⟩ (.slice ao5 (xs.length + 1) cap5)) w.heap.size [.int .i64 0, .slice none 0 0, .slice none 0 0] ∧ NumsO (w8.setCell ⟨T5, 1, none⟩ (.slice ao5 (xs.length + 1) cap5)) B2 (w8.setCell ⟨T5, 1, none⟩ (.slice ao5 (xs.length + 1) cap5)).heap.size (.slice ao5 (xs.length + 1) cap5) (xs ++ [(.slice ao ys.length c, ys)]) ∧ CurOk (w8.setCell ⟨T5, 1, none⟩ (.slice ao5 (xs.length + 1) cap5)) b (K + 2 + 40 * 0 + 8 * (a : Int) + 8) ∧ But b (b + 1) w (w8.setCell ⟨T5, 1, none⟩ (.slice ao5 (xs.length + 1) cap5)) ∧ B2 ≤ (w8.setCell ⟨T5, 1, none⟩ (.slice ao5 (xs.length + 1) cap5)).heap.size) := ⟨M8, A8.other (b' := T5) (j := 1) (by omega) _, Z8.other (b' := T5) (j := 1) (by omega) _, by rw [ez]; exact NX8.but P8 (by omega), (C8.set (by omega) 1 _).le (by omega), G8.setNew (by simp; omega) _, by rw [ez]; omega⟩
                clear ez hs8 P8 M8 L8 A8 Z8 C8 G8 B8 NX8 NX7 NY7 hbt hgrow hown' K7 N7 HH
                have hsh2 : Hid (Short xs) := HX.out.2.2.2.2
                clear HX
                dsimp only
                repeat (first | go_values | go_skip | go_guarded | go_step | go_upon)
                refine ⟨⟨a + 1, xs ++ [(.slice ao ys.length c, ys)], .slice ao5 (xs.length + 1) cap5, by omega, by simp, by have := HXL.out; simp; omega, hsh2.out.push (by omega), HR8.out.1, HR8.out.2.1, HR8.out.2.2.1, HR8.out.2.2.2.1, HR8.out.2.2.2.2.1.le (by omega), HR8.out.2.2.2.2.2.1, HR8.out.2.2.2.2.2.2⟩, by simp [intOf]; omega⟩
          · have da : decide ((a : Int) < (sn : Int)) = false := decide_eq_false (by omega)
            have da2 : decide (a < sn) = false := decide_eq_false hlt
            have t0 := LT.cell 0 rfl
            repeat (first | go_values | go_skip | go_guarded | go_step | go_upon)
            clear da da2 t0
            refine ⟨⟨1, xs, [], xv, .slice none 0 0, wr.heap.size, by omega, rfl, fun h => by omega, fun _ => by have := HXL.out; omega, fun _ => ⟨rfl, rfl⟩, fun h => by omega, hsh, Short.nil, LT, LA, ZR, NX, NumsO.nil _ _ _, hlo, Nat.le_refl _, hC.le (by omega), hg⟩, by simp [intOf]⟩

      · have HRL : Hid (rs.length = sn) := hr1 (by omega)
        obtain ⟨rfl, rfl⟩ := hd0 (by omega)
        have HSR : Hid (Short rs) := hsr
        have c0 := LA.cell 1 rfl
        clear hr0 hr1 hd0 hd1 hsr
        rw [show ((1 : Nat) : Int) = 1 from rfl] at hC ⊢
        repeat (first | go_values | go_skip | go_guarded | go_step | go_upon)
        clear c0
        go_loopw [6] (fun n wr => ∃ (a : Nat) (xs : List NumsE) (xv : Value), a ≤ sn ∧ n = .int .i64 a ∧ xs.length = a ∧ Short xs ∧ Loc wr T5 [.int .i64 (sn : Int), rv, xv] ∧ Loc wr A5 [.int .i64 0, .int .i64 1] ∧ Loc wr w.heap.size [.int .i64 0, .slice none 0 0, .slice none 0 0] ∧ NumsO wr M wr.heap.size xv xs ∧ CurOk wr b (K + 2 + 40 * 1 + 8 * (a : Int)) ∧ But b (b + 1) w wr ∧ M ≤ wr.heap.size ∧ NumsO wr B2 M rv rs) (fun n _ => sn - (intOf n).toNat)
        case atStart => exact ⟨0, [], _, by omega, rfl, rfl, Short.nil, LT, LA, ZR, NumsO.nil _ _ _, by simpa using hC, hg, hM, NR⟩
        case round =>
          obtain ⟨a, xs, xv, ha, rfl, hxl, hsh, LT, LA, ZR, NX, hC, hg, hlo, NR⟩ := hrel
          have hbT := HB.out
          have hx4 : xs.length ≤ 4 := by omega
          have HXL : Hid (xs.length = a) := hxl
          clear hxl
          by_cases hlt : a < sn
          · have da : decide ((a : Int) < (sn : Int)) = true := decide_eq_true (by omega)
            have da2 : decide (a < sn) = true := decide_eq_true hlt
            have t0 := LT.cell 0 rfl
            repeat (first | go_values | go_skip | go_guarded | go_step | go_upon)
            clear da da2 t0
            obtain ⟨W0, hW0⟩ : ∃ x, x = wr := ⟨_, rfl⟩
            rw [← hW0] at LT LA ZR NX hC hg hlo NR ⊢
            clear hW0
            have HX : Hid (Loc W0 A5 [.int .i64 0, .int .i64 1] ∧ Loc W0 w.heap.size [.int .i64 0, .slice none 0 0, .slice none 0 0] ∧ NumsO W0 M W0.heap.size xv xs ∧ But b (b + 1) w W0 ∧ Short xs ∧ NumsO W0 B2 M rv rs) := ⟨LA, ZR, NX, hg, hsh, NR⟩
            have hbW := hC.lt
            have htW := LT.lt
            clear LA ZR NX hg hsh NR
            go_loopw [7, 8] (fun x n wr => ∃ (j : Nat) (ys : List Int) (ao : Option Addr) (c : Nat), j ≤ sn ∧ ys.length ≤ j ∧ x = .slice ao ys.length c ∧ n = .int .i64 j ∧ wr.ownsRow W0.heap.size 3 1 (.slice ao ys.length c) ys.length (ys.flatMap numC) ∧ CurOk wr b (K + 2 + 40 * 1 + 8 * (a : Int) + 2 * (j : Int)) ∧ But b (b + 1) W0 wr) (fun x n _ => sn - (intOf n).toNat)
            case atStart => exact ⟨0, [], none, 0, by omega, by simp, rfl, rfl, World.ownsRow_nil _ _ _ _, by simpa using hC, But.refl _ _ _⟩
            case round =>
              clear hC
              obtain ⟨j, ys, ao, c, hj, hyl, rfl, rfl, HO, hC, hg2⟩ := hrel
              have LT2 := LT.cur hg2 (by omega)
              have t0 := LT2.cell 0 rfl
              have hs2 := hg2.size
              by_cases hjl : j < sn
              · have da : decide ((j : Int) < (sn : Int)) = true := decide_eq_true (by omega)
                have da2 : decide (j < sn) = true := decide_eq_true hjl
                have hj1 : IntKind.i64.wrap ((j : Int) + 1) = (j : Int) + 1 := IntWalk.i64_in _ (by omega)
                repeat (first | go_values | go_skip | go_guarded | go_step | go_upon)
                clear da da2 t0
                go_at_call 71
                refine (one_ok _ b _ 3 hC (by omega) (by omega)).mono ?_
                rintro e wc ⟨y2, rfl, hC, hg3⟩
                have HO := own_but HO hg3 (fun g hg => by have := own_lt HO hg; omega)
                have hg4 := hg2.trans hg3
                have hs4 := hg4.size
                clear hg2 hg3 LT2
                cases y2
                · dsimp only
                  have HH : Hid (wc.ownsRow W0.heap.size 3 1 (.slice ao ys.length c) ys.length (ys.flatMap numC) ∧ CurOk wc b (K + 2 + 40 * 1 + 8 * (a : Int) + 2 * (j : Int) + 2) ∧ But b (b + 1) W0 wc) := ⟨HO, hC, hg4⟩
                  clear HO hC hg4
                  repeat (first | (at_builtin; refine forgetL (fun w' => w' = _) rfl ?_) | go_values | go_skip | go_guarded | go_step | go_upon)
                  intro W7 hW7
                  have K7 : Kept wc W7 := by rw [hW7]; exact (But.refl _ _ _).alloc _
                  have N7 : Loc W7 wc.heap.size [.int .i64 (j : Int)] := by rw [hW7]; exact Loc.new wc _ _
                  have s7 := K7.size
                  clear hW7
                  refine wpList_append_own _ rfl _ _ 26 rfl W0.heap.size 3 i0 (.int .i64 0) 1 8 Try.underlying26 hi0 hz0 hz1 hz2 rfl (by decide) (.slice ao ys.length c) ys.length (ys.flatMap numC) rfl (own_kept HH.out.1 K7) ⟨wc.heap.size, 0, none⟩ 1 1 [.int .i64 (j : Int)] rfl rfl (news1 N7) (by simp [Value.oneCell']) (by unfold maxLen; omega) (by omega) (by omega) ?_
                  intro v' w8 hown' hgrow _
                  obtain ⟨ao5, cap5, hf5, _⟩ := own_form hown'
                  subst hf5
                  have C8 := (HH.out.2.1.kept K7).but ((But.refl W0.heap.size W7.heap.size W7).grown hgrow (fun k hk => .inr (own_lt (own_kept HH.out.1 K7) hk))) hbW
                  have G8 : But b (b + 1) W0 w8 := ((HH.out.2.2).transK K7).grown hgrow (fun k hk => .inl (by have := own_lt HH.out.1 hk; omega))
                  clear HH K7 N7 s7 hgrow
                  have HH : Hid (w8.ownsRow W0.heap.size 3 1 (.slice ao5 (ys.length + 1) cap5) (ys.length + 1) (ys.flatMap numC ++ [.int .i64 (j : Int)]) ∧ CurOk w8 b (K + 2 + 40 * 1 + 8 * (a : Int) + 2 * (j : Int) + 2) ∧ But b (b + 1) W0 w8) := ⟨hown', C8, G8⟩
                  clear hown' C8 G8
                  dsimp only
                  repeat (first | go_values | go_skip | go_guarded | go_step | go_upon)
                  refine ⟨⟨j + 1, ys ++ [(j : Int)], ao5, cap5, by omega, by simp; omega, by simp, by simp, by rw [List.flatMap_append, List.length_append]; exact HH.out.1, HH.out.2.1.le (by omega), HH.out.2.2⟩, by simp [intOf]; omega⟩
                · dsimp only
                  repeat (first | go_values | go_skip | go_guarded | go_step | go_upon)
                  refine ⟨⟨j + 1, ys, ao, c, by omega, by omega, rfl, by simp, HO, hC.le (by omega), hg4⟩, by simp [intOf]; omega⟩
              · have da : decide ((j : Int) < (sn : Int)) = false := decide_eq_false (by omega)
                have da2 : decide (j < sn) = false := decide_eq_false hjl
                have t1 := LT2.cell 2 rfl
                have HH : Hid (wr.ownsRow W0.heap.size 3 1 (.slice ao ys.length c) ys.length (ys.flatMap numC) ∧ CurOk wr b (K + 2 + 40 * 1 + 8 * (a : Int) + 2 * (j : Int)) ∧ But b (b + 1) W0 wr ∧ Loc wr T5 [.int .i64 (sn : Int), rv, xv]) := ⟨HO, hC, hg2, LT2⟩
                clear HO hC hg2 LT2
                repeat (first | (at_builtin; refine forgetL (fun w' => w' = _) rfl ?_) | go_values | go_skip | go_guarded | go_step | go_upon)
                clear t0 t1 da da2
                intro W7 hW7
                have K7 : Kept wr W7 := by rw [hW7]; exact (But.refl _ _ _).alloc _
                have N7 : Loc W7 wr.heap.size [.slice ao ys.length c] := by rw [hW7]; exact Loc.new wr _ _
                have s7 := K7.size
                have sr := HH.out.2.2.1.size
                clear hW7
                have NX7 := (HX.out.2.2.1.but HH.out.2.2.1 (by omega)).kept K7
                have NY7 : NumO W7 W0.heap.size W7.heap.size (.slice ao ys.length c) ys := RowO.mono (RowO.kept (RowO.top HH.out.1) K7) (Nat.le_refl _) s7
                obtain ⟨ax, cx, hxv⟩ := NX7.form
                subst hxv
                refine wpList_append_own _ rfl _ _ 23 rfl M 26 i5 (.slice none 0 0) 1 24 Try.underlying23 hi5 hy0 hy1 hy2 rfl (by decide) (.slice ax xs.length cx) xs.length (xs.flatMap numsC) rfl NX7.row.1 ⟨wr.heap.size, 0, none⟩ 1 1 [.slice ao ys.length c] rfl rfl (news1 N7) (by simp [Value.oneCell']) (by unfold maxLen; omega) (by omega) (by omega) ?_
                intro v' w8 hown' hgrow _
                have NX8 := NX7.push NY7 (RowO.top hown') hgrow hlo (by omega) hgrow.size
                have hbt : ∀ g, (Value.slice ax xs.length cx).ownBlock = some g → M ≤ g := fun g hg => (own_lt NX7.row.1 hg).1
                have L8 := (HH.out.2.2.2.kept K7).grown hgrow (fun e => by have := hbt _ e; omega)
                have A8 := ((HX.out.1.cur HH.out.2.2.1 (by omega)).kept K7).grown hgrow (fun e => by have := hbt _ e; omega)
                have Z8 := ((HX.out.2.1.cur HH.out.2.2.1 (by omega)).kept K7).grown hgrow (fun e => by have := hbt _ e; omega)
                have B8 := (But.refl M W7.heap.size W7).grown hgrow (fun k hk => .inr (own_lt NX7.row.1 hk))
                have C8 := (HH.out.2.1.kept K7).but B8 (by omega)
                have G8 : But b (b + 1) w w8 := ((HX.out.2.2.2.1.trans HH.out.2.2.1).transK K7).grown hgrow (fun k hk => .inl (by have := hbt _ hk; omega))
                have NR8 := ((HX.out.2.2.2.2.2.but HH.out.2.2.1 (by omega)).kept K7).but B8 (by omega)
                obtain ⟨ao5, cap5, hf5, _⟩ := own_form hown'
                subst hf5
                have x2 := L8.cell 2 rfl
                have x2f := L8.frozen 2
                have M8 := L8.set 2 (.slice ao5 (xs.length + 1) cap5)
                simp only [List.set_cons_zero, List.set_cons_succ] at M8
                have P8 : But T5 (T5 + 1) w8 (w8.setCell ⟨T5, 2, none⟩ (.slice ao5 (xs.length + 1) cap5)) := (But.refl _ _ _).setCell (by simp) (by simp) _
                have hs8 : W0.heap.size ≤ w8.heap.size := by have := hgrow.size; omega
                have ez : (w8.setCell ⟨T5, 2, none⟩ (.slice ao5 (xs.length + 1) cap5)).heap.size = w8.heap.size := by simp
                have HR8 : Hid (Loc (w8.setCell ⟨T5, 2, none⟩ (.slice ao5 (xs.length + 1) cap5)) T5 [.int .i64 (sn : Int), rv, .slice ao5 (xs.length + 1) cap5] ∧ Loc (w8.setCell ⟨T5, 2, none⟩ (.slice ao5 (xs.length + 1) cap5)) A5 [.int .i64 0, .int .i64 1] ∧ Loc (w8.setCell ⟨T5, 2, none⟩ (.slice ao5 (xs.length + 1) cap5)) w.heap.size [.int .i64 0, .slice none 0 0, .slice none 0 0] ∧ NumsO (w8.setCell ⟨T5, 2, none⟩ (.slice ao5 (xs.length + 1) cap5)) M (w8.setCell ⟨T5, 2, none⟩ (.slice ao5 (xs.length + 1) cap5)).heap.size (.slice ao5 (xs.length + 1) cap5) (xs ++ [(.slice ao ys.length c, ys)]) ∧ CurOk (w8.setCell ⟨T5, 2, none⟩ (.slice ao5 (xs.length + 1) cap5)) b (K + 2 + 40 * 1 + 8 * (a : Int) + 8) ∧ But b (b + 1) w (w8.setCell ⟨T5, 2, none⟩ (.slice ao5 (xs.length + 1) cap5)) ∧ M ≤ (w8.setCell ⟨T5, 2, none⟩ (.slice ao5 (xs.length + 1) cap5)).heap.size ∧ NumsO (w8.setCell ⟨T5, 2, none⟩ (.slice ao5 (xs.length + 1) cap5)) B2 M rv rs) := ⟨M8, A8.other (b' := T5) (j := 2) (by omega) _, Z8.other (b' := T5) (j := 2) (by omega) _, by rw [ez]; exact NX8.but P8 (by omega), (C8.set (by omega) 2 _).le (by omega), G8.setNew (by simp; omega) _, by rw [ez]; omega, NR8.but P8 (by omega)⟩
                clear ez hs8 P8 M8 L8 A8 Z8 C8 G8 B8 NX8 NX7 NY7 hbt hgrow hown' K7 N7 HH NR8
                have hsh2 : Hid (Short xs) := HX.out.2.2.2.2.1
                clear HX
                dsimp only
                repeat (first | go_values | go_skip | go_guarded | go_step | go_upon)
                refine ⟨⟨a + 1, xs ++ [(.slice ao ys.length c, ys)], .slice ao5 (xs.length + 1) cap5, by omega, by simp, by have := HXL.out; simp; omega, hsh2.out.push (by omega), HR8.out.1, HR8.out.2.1, HR8.out.2.2.1, HR8.out.2.2.2.1, HR8.out.2.2.2.2.1.le (by omega), HR8.out.2.2.2.2.2.1, HR8.out.2.2.2.2.2.2.1, HR8.out.2.2.2.2.2.2.2⟩, by simp [intOf]; omega⟩
          · have da : decide ((a : Int) < (sn : Int)) = false := decide_eq_false (by omega)
            have da2 : decide (a < sn) = false := decide_eq_false hlt
            have t0 := LT.cell 0 rfl
            repeat (first | go_values | go_skip | go_guarded | go_step | go_upon)
            clear da da2 t0
            refine ⟨⟨2, rs, xs, rv, xv, M, by omega, rfl, fun h => by omega, fun _ => HRL.out, fun h => by omega, fun _ => by have := HXL.out; omega, HSR.out, hsh, LT, LA, ZR, NR, NX, hBM, hlo, hC.le (by omega), hg⟩, by simp [intOf]⟩

    · obtain rfl : k = 2 := by omega
      have HRL : Hid (rs.length = sn ∧ ds.length = sn ∧ Short rs ∧ Short ds) := ⟨hr1 (by omega), hd1 rfl, hsr, hsd⟩
      clear hr0 hr1 hd0 hd1 hsr hsd LA
      repeat (first | go_values | go_skip | go_guarded | go_step | go_upon)
      go_at_call 79
      refine (pick_ok _ b (K + 2 + 80) 40 (hC.le (by omega)) (by omega) (by omega)).mono ?_
      rintro e wp ⟨z, rfl, hz, hC, hg2⟩
      have LT := LT.cur hg2 (by omega)
      have ZR := ZR.cur hg2 (by omega)
      have NR := NR.but hg2 (by omega)
      have ND := (ND.but hg2 (by omega)).mono (Nat.le_refl _) hg2.size
      have hg := hg.trans hg2
      have hM := Nat.le_trans hM hg2.size
      clear hg2
      dsimp only
      by_cases hza : z = 0
      · subst hza
        repeat (first | go_values | go_skip | go_guarded | go_step | go_upon)
        go_at_call 80
        refine (among_ok _ b _ (K + 2 + 80 + 2) [0, 6, 7] (hC.alloc _) (by omega) (by have := hC.lt; omega) (Listed.of (Loc.new _ _ _)) (by simp) (by simp) 3 rfl).mono ?_
        rintro e wq ⟨wd, rfl, hz4, hC, hg4⟩
        have j4 : But b (b + 1) wp wq := ((But.refl _ _ _).alloc _).trans hg4
        have LT := LT.cur j4 (by omega)
        have hwb : 0 ≤ wd ∧ wd ≤ 7 := by simp at hz4; omega
        have x0 := LT.cell 0 rfl
        have x0f := LT.frozen 0
        have LT := LT.set 0 (.int .i64 wd)
        simp only [List.set_cons_zero] at LT
        have P8 : But T5 (T5 + 1) wq (wq.setCell ⟨T5, 0, none⟩ (.int .i64 wd)) := (But.refl _ _ _).setCell (by simp) (by simp) _
        have ez : (wq.setCell ⟨T5, 0, none⟩ (.int .i64 wd)).heap.size = wq.heap.size := by simp
        have ZR := (ZR.cur j4 (by omega)).other (b' := T5) (j := 0) (by omega) (.int .i64 wd)
        have NR := (NR.but j4 (by omega)).but P8 (by omega)
        have ND := ((ND.but j4 (by omega)).mono (Nat.le_refl _) j4.size).but P8 (by omega)
        rw [← ez] at ND
        have hC := hC.set (show b < T5 by omega) 0 (.int .i64 wd)
        have hg := (hg.trans j4).setNew (p := ⟨T5, 0, none⟩) (by simp; omega) (.int .i64 wd)
        clear hg4 j4 P8 ez hz4
        dsimp only
        have NR := NumsI.of NR
        have t0 := LT.cell 0 rfl
        have t1 := LT.cell 1 rfl
        have t2 := LT.cell 2 rfl
        have u0 := ZR.cell 0 rfl
        have uf0 := ZR.frozen 0
        have U1 := ZR.set 0 (.int .i64 wd)
        simp only [List.set_cons_zero] at U1
        have u1 := U1.cell 1 rfl
        have uf1 := U1.frozen 1
        have U2 := U1.set 1 rv
        simp only [List.set_cons_zero, List.set_cons_succ] at U2
        have u2 := U2.cell 2 rfl
        have uf2 := U2.frozen 2
        have U3 := U2.set 2 dv
        simp only [List.set_cons_zero, List.set_cons_succ] at U3
        have v0 := U3.cell 0 rfl
        have v1 := U3.cell 1 rfl
        have v2 := U3.cell 2 rfl
        have B9 : But w.heap.size (w.heap.size + 1) (wq.setCell ⟨T5, 0, none⟩ (.int .i64 wd)) ((((wq.setCell ⟨T5, 0, none⟩ (.int .i64 wd)).setCell ⟨w.heap.size, 0, none⟩ (.int .i64 wd)).setCell ⟨w.heap.size, 1, none⟩ rv).setCell ⟨w.heap.size, 2, none⟩ dv) := (((But.refl _ _ _).setCell (by simp) (by simp) _).setCell (by simp) (by simp) _).setCell (by simp) (by simp) _
        have HF : Hid (NumsI ((((wq.setCell ⟨T5, 0, none⟩ (.int .i64 wd)).setCell ⟨w.heap.size, 0, none⟩ (.int .i64 wd)).setCell ⟨w.heap.size, 1, none⟩ rv).setCell ⟨w.heap.size, 2, none⟩ dv) B2 M rv rs ∧ NumsO ((((wq.setCell ⟨T5, 0, none⟩ (.int .i64 wd)).setCell ⟨w.heap.size, 0, none⟩ (.int .i64 wd)).setCell ⟨w.heap.size, 1, none⟩ rv).setCell ⟨w.heap.size, 2, none⟩ dv) M (wq.setCell ⟨T5, 0, none⟩ (.int .i64 wd)).heap.size dv ds ∧ CurOk ((((wq.setCell ⟨T5, 0, none⟩ (.int .i64 wd)).setCell ⟨w.heap.size, 0, none⟩ (.int .i64 wd)).setCell ⟨w.heap.size, 1, none⟩ rv).setCell ⟨w.heap.size, 2, none⟩ dv) b (K + 2 + 80 + 2 + 2) ∧ But b (b + 1) w ((((wq.setCell ⟨T5, 0, none⟩ (.int .i64 wd)).setCell ⟨w.heap.size, 0, none⟩ (.int .i64 wd)).setCell ⟨w.heap.size, 1, none⟩ rv).setCell ⟨w.heap.size, 2, none⟩ dv)) := ⟨NR.but B9 (by omega), ND.but B9 (by omega), ((hC.set hbT.1 0 _).set hbT.1 1 _).set hbT.1 2 _, ((hg.setNew (by simp) _).setNew (by simp) _).setNew (by simp) _⟩
        obtain ⟨ar, cr, hrf⟩ := NR.form
        obtain ⟨ad, cd, hdf⟩ := ND.form
        clear U1 U2 U3 LT ZR NR ND hC hg B9
        subst hrf hdf
        repeat (first | go_values | go_skip | go_guarded | go_step | go_upon)
        refine bodyPost_ret (v := .agg #[.int .i64 wd, .slice ar rs.length cr, .slice ad ds.length cd]) (by simp [results, Try.results68, go_sem, *]) rfl ?_
        have hc1 := cost5 rs HRL.out.2.2.1.five
        have hc2 := cost5 ds HRL.out.2.2.2.five
        have hl := HRL.out
        refine ⟨(wd, rs.map Prod.snd, ds.map Prod.snd), _, rfl, ⟨_, _, rs, ds, rfl, HF.out.1.low.mono (by omega) (Nat.le_refl _), (NumsI.of HF.out.2.1).low.mono (by omega) (Nat.le_refl _), rfl, rfl⟩, by show 0 ≤ wd; omega, by show wd ≤ 7; omega, by show lLCost (rs.map Prod.snd) + lLCost (ds.map Prod.snd) ≤ 1000; omega, HF.out.2.2.1.le (by omega), HF.out.2.2.2⟩

      · by_cases hzb : z = 1
        · subst hzb
          repeat (first | go_values | go_skip | go_guarded | go_step | go_upon)
          have hpos : 0 < rs.length := by have := HRL.out.1; omega
          obtain ⟨g5, cR, hrv⟩ := some_row NR hpos
          subst hrv
          obtain ⟨⟨u0v, l0⟩, hr0⟩ : ∃ r, rs[0]? = some r := ⟨_, List.getElem?_eq_getElem hpos⟩
          obtain ⟨a0, c0, hu0, _⟩ := own_form (NR.inn 0 _ hr0).1
          dsimp only at hu0
          subst hu0
          have hl4 : l0.length ≤ 4 := HRL.out.2.2.1 _ (List.mem_of_getElem? hr0)
          have hgc : ∀ W' : World, NumsO W' B2 M (.slice (some ⟨g5, 0, none⟩) rs.length cR) rs → W'.cell? ⟨g5, 0, none⟩ = some (.slice a0 l0.length c0) ∧ W'.frozen? ⟨g5, 0, none⟩ = false := fun W' hW => by
            obtain ⟨hc, hf⟩ := own_get 1 numsC numsC_len (by omega) hW.row hr0
            exact ⟨by have := hc 0 _ rfl; simpa using this, hf 0⟩
          have HGC : Hid (∀ W' : World, NumsO W' B2 M (.slice (some ⟨g5, 0, none⟩) rs.length cR) rs → W'.cell? ⟨g5, 0, none⟩ = some (.slice a0 l0.length c0) ∧ W'.frozen? ⟨g5, 0, none⟩ = false) := hgc
          clear hgc
          have KD : Kept wp wp.drew := (But.refl _ _ _).drew
          have hS9 : (fun w' => w'.cell? ⟨T5, 1, none⟩ = some (.slice (some ⟨g5, 0, none⟩) rs.length cR) ∧ w'.cell? ⟨g5, 0, none⟩ = some (.slice a0 l0.length c0)) wp.drew := ⟨(LT.kept KD).cell 1 rfl, (HGC.out _ (NR.kept KD)).1⟩
          have hC9 := hC.kept KD
          have HST : Hid (Loc wp T5 [.int .i64 (sn : Int), .slice (some ⟨g5, 0, none⟩) rs.length cR, dv] ∧ Loc wp w.heap.size [.int .i64 0, .slice none 0 0, .slice none 0 0] ∧ NumsO wp B2 M (.slice (some ⟨g5, 0, none⟩) rs.length cR) rs ∧ NumsO wp M wp.heap.size dv ds ∧ But b (b + 1) w wp) := ⟨LT, ZR, NR, ND, hg⟩
          have HR0 : Hid (rs[0]? = some (.slice a0 l0.length c0, l0)) := hr0
          clear LT ZR NR ND hg hC hr0 KD
          have hpi : (0 : Int) < (rs.length : Int) := by omega
          have hpd : decide (0 < rs.length) = true := decide_eq_true hpos
          refine wp_region_Z (fun w' => w'.cell? ⟨T5, 1, none⟩ = some (.slice (some ⟨g5, 0, none⟩) rs.length cR) ∧ w'.cell? ⟨g5, 0, none⟩ = some (.slice a0 l0.length c0)) 12 (by kernel_rfl) ?_
          refine wpAnyZ_take (i := 0) (v := .pointer (some ⟨T5, 1, none⟩)) rfl (by kernel_rfl) (by kernel_rfl) (by kernel_rfl) (by kernel_rfl) (fun _ _ _ h => h) (Or.inl ⟨by rfl, ?_⟩) hS9 ?_
          · intro w' hSw; obtain ⟨s0, s1⟩ := hSw; go_simp
          try simp only [Act.put]
          refine wpAnyZ_take (i := 1) (v := .slice (some ⟨g5, 0, none⟩) rs.length cR) rfl (by kernel_rfl) (by kernel_rfl) (by kernel_rfl) (by kernel_rfl) (fun _ _ _ h => h) (Or.inl ⟨by rfl, ?_⟩) hS9 ?_
          · intro w' hSw; obtain ⟨s0, s1⟩ := hSw; go_simp
          try simp only [Act.put]
          refine wpAnyZ_take (i := 2) (v := .pointer (some ⟨T5, 1, none⟩)) rfl (by kernel_rfl) (by kernel_rfl) (by kernel_rfl) (by kernel_rfl) (fun _ _ _ h => h) (Or.inl ⟨by rfl, ?_⟩) hS9 ?_
          · intro w' hSw; obtain ⟨s0, s1⟩ := hSw; go_simp
          try simp only [Act.put]
          refine wpAnyZ_take (i := 3) (v := .slice (some ⟨g5, 0, none⟩) rs.length cR) rfl (by kernel_rfl) (by kernel_rfl) (by kernel_rfl) (by kernel_rfl) (fun _ _ _ h => h) (Or.inl ⟨by rfl, ?_⟩) hS9 ?_
          · intro w' hSw; obtain ⟨s0, s1⟩ := hSw; go_simp
          try simp only [Act.put]
          refine wpAnyZ_take (i := 4) (v := .pointer (some ⟨g5, 0, none⟩)) rfl (by kernel_rfl) (by kernel_rfl) (by kernel_rfl) (by kernel_rfl) (fun _ _ _ h => h) (Or.inl ⟨by rfl, ?_⟩) hS9 ?_
          · intro w' hSw; obtain ⟨s0, s1⟩ := hSw; go_simp
          try simp only [Act.put]
          refine wpAnyZ_take (i := 5) (v := .slice a0 l0.length c0) rfl (by kernel_rfl) (by kernel_rfl) (by kernel_rfl) (by kernel_rfl) (fun _ _ _ h => h) (Or.inl ⟨by rfl, ?_⟩) hS9 ?_
          · intro w' hSw; obtain ⟨s0, s1⟩ := hSw; go_simp
          try simp only [Act.put]
          refine wpAnyZ_take (i := 6) (v := .pointer (some ⟨b, 0, none⟩)) rfl (by kernel_rfl) (by kernel_rfl) (by kernel_rfl) (by kernel_rfl) (fun _ _ _ h => h) (Or.inl ⟨by rfl, ?_⟩) hS9 ?_
          · intro w' hSw; obtain ⟨s0, s1⟩ := hSw; go_simp
          try simp only [Act.put]
          refine wpAnyZ_one (i := 7) (by kernel_rfl) rfl ?_
          intro K8 hK8
          rw [if_pos (by rfl)]
          go_simp
          go_at_call 79
          refine (pick_ok _ b (K + 2 + 80 + 2) 5 hC9 (by omega) (by omega)).mono ?_
          rintro e y2 ⟨zt, rfl, hzt, hC, hg4⟩
          have ky : But b (b + 1) wp y2 := (But.refl _ _ _).drew.trans hg4
          clear hg4 hC9 hS9
          have hMs := ky.size
          have ST2 : Loc y2 T5 [.int .i64 (sn : Int), .slice (some ⟨g5, 0, none⟩) rs.length cR, dv] ∧ Loc y2 w.heap.size [.int .i64 0, .slice none 0 0, .slice none 0 0] ∧ NumsO y2 B2 M (.slice (some ⟨g5, 0, none⟩) rs.length cR) rs ∧ NumsO y2 M y2.heap.size dv ds ∧ But b (b + 1) w y2 := ⟨HST.out.1.cur ky (by omega), HST.out.2.1.cur ky (by omega), HST.out.2.2.1.but ky (by omega), (HST.out.2.2.2.1.but ky (by omega)).mono (Nat.le_refl _) ky.size, HST.out.2.2.2.2.trans ky⟩
          have hS8 : (fun w' => w'.cell? ⟨T5, 1, none⟩ = some (.slice (some ⟨g5, 0, none⟩) rs.length cR) ∧ w'.cell? ⟨g5, 0, none⟩ = some (.slice a0 l0.length c0)) y2 := ⟨ST2.1.cell 1 rfl, (HGC.out _ ST2.2.2.1).1⟩
          have HS2 : Hid _ := ST2
          clear ST2 HST ky
          have ezt : IntKind.i64.wrap (zt - 1) = zt - 1 := IntWalk.i64_in _ (by omega)
          dsimp only
          refine hK8.out _ _ (fun _ => hS8) ?_
          clear hK8 K8
          try simp only [Act.put]
          refine wpAnyZ_one (i := 8) (by kernel_rfl) rfl ?_
          intro K8 hK8
          rw [if_pos (by rfl)]
          go_simp
          refine hK8.out _ _ (fun _ => hS8) ?_
          clear hK8 K8
          try simp only [Act.put]
          refine wpAnyZ_one (i := 9) (by kernel_rfl) rfl ?_
          intro K8 hK8
          rw [if_pos (by rfl)]
          go_simp
          obtain ⟨y3, hy3⟩ : ∃ y, y = y2.alloc (.cells #[.int .i64 (zt - 1)] 3) := ⟨_, rfl⟩
          rw [← hy3]
          have ky3 : Kept y2 y3 := by rw [hy3]; exact (But.refl _ _ _).alloc _
          have L9 : Loc y3 y2.heap.size [.int .i64 (zt - 1)] := by rw [hy3]; exact Loc.new y2 _ _
          have NR3 := HS2.out.2.2.1.kept ky3
          have LT3 := HS2.out.1.kept ky3
          have hS7 : (fun w' => w'.cell? ⟨T5, 1, none⟩ = some (.slice (some ⟨g5, 0, none⟩) rs.length cR) ∧ w'.cell? ⟨g5, 0, none⟩ = some (.slice a0 l0.length c0)) y3 := ⟨LT3.cell 1 rfl, (HGC.out _ NR3).1⟩
          clear hy3 hS8 ezt
          refine hK8.out _ _ (fun _ => hS7) ?_
          clear hK8 K8
          try simp only [Act.put]
          have s9 := ky3.size
          have hO9 := NR3.inn 0 _ HR0.out
          refine wpAnyZ_one (i := 10) (by kernel_rfl) rfl ?_
          intro K8 hK8
          refine step_append_own rfl (.tmp 68) (.tmp 72) 26 rfl B2 3 i0 (.int .i64 0) 1 8 Try.underlying26 hi0 hz0 hz1 hz2 rfl (by decide) (.slice a0 l0.length c0) l0.length (l0.flatMap numC) (by simp [Act.eval]) hO9.1 ⟨y2.heap.size, 0, none⟩ 1 1 [.int .i64 (zt - 1)] (by simp [Act.eval]) rfl (news1 L9) (by simp [Value.oneCell']) (by unfold maxLen; omega) (by omega) (by omega) ?_
          intro v3 w3 hown hgrow
          obtain ⟨ao3, cp3, hf3, _⟩ := own_form hown
          subst hf3
          have row8 := RowO.grown NR3.row hgrow (ap_types NR3.row hO9 (by decide))
          obtain ⟨hc8, hf8⟩ := own_get 1 numsC numsC_len (by omega) row8 HR0.out
          have gc8 : w3.cell? ⟨g5, 0, none⟩ = some (.slice a0 l0.length c0) := by have := hc8 0 _ rfl; simpa using this
          have gf8 := hf8 0
          have g5lo := (own_lt NR3.row.1 (g := g5) rfl).1
          have g5hi := NR3.row.2 g5 rfl
          have s3 := hgrow.size
          have B8 := (But.refl B2 M y3).grown hgrow (fun k hk => .inr ⟨(own_lt hO9.1 hk).1, hO9.2 k hk⟩)
          have BX : But B2 M y3 (w3.setCell ⟨g5, 0, none⟩ (.slice ao3 (l0.length + 1) cp3)) := B8.setCell g5lo g5hi _
          have ez : (w3.setCell ⟨g5, 0, none⟩ (.slice ao3 (l0.length + 1) cp3)).heap.size = w3.heap.size := by simp
          have NR8 := NumsI.step (v' := .slice ao3 (l0.length + 1) cp3) (l' := l0 ++ [zt - 1]) NR3 HR0.out hgrow (by rw [List.flatMap_append, List.length_append]; exact hown) (by omega)
          have ND8 := ((HS2.out.2.2.2.1.kept ky3).mono (Nat.le_refl _) (show _ ≤ w3.heap.size by omega)).but BX (.inr (Nat.le_refl _))
          rw [← ez] at ND8
          have hS6 : (fun w' => w'.cell? ⟨T5, 1, none⟩ = some (.slice (some ⟨g5, 0, none⟩) rs.length cR) ∧ w'.cell? ⟨g5, 0, none⟩ = some (.slice a0 l0.length c0)) w3 := ⟨(LT3.but B8 (by omega)).cell 1 rfl, gc8⟩
          have HALL : Hid (Loc (w3.setCell ⟨g5, 0, none⟩ (.slice ao3 (l0.length + 1) cp3)) T5 [.int .i64 (sn : Int), .slice (some ⟨g5, 0, none⟩) rs.length cR, dv] ∧ Loc (w3.setCell ⟨g5, 0, none⟩ (.slice ao3 (l0.length + 1) cp3)) w.heap.size [.int .i64 0, .slice none 0 0, .slice none 0 0] ∧ NumsI (w3.setCell ⟨g5, 0, none⟩ (.slice ao3 (l0.length + 1) cp3)) B2 w3.heap.size (.slice (some ⟨g5, 0, none⟩) rs.length cR) (rs.set 0 (.slice ao3 (l0.length + 1) cp3, l0 ++ [zt - 1])) ∧ NumsO (w3.setCell ⟨g5, 0, none⟩ (.slice ao3 (l0.length + 1) cp3)) M (w3.setCell ⟨g5, 0, none⟩ (.slice ao3 (l0.length + 1) cp3)).heap.size dv ds ∧ CurOk (w3.setCell ⟨g5, 0, none⟩ (.slice ao3 (l0.length + 1) cp3)) b (K + 2 + 80 + 2 + 2) ∧ But b (b + 1) w (w3.setCell ⟨g5, 0, none⟩ (.slice ao3 (l0.length + 1) cp3)) ∧ (rs.set 0 (.slice ao3 (l0.length + 1) cp3, l0 ++ [zt - 1])).length = sn ∧ ∀ p ∈ rs.set 0 (.slice ao3 (l0.length + 1) cp3, l0 ++ [zt - 1]), p.2.length ≤ 5) := ⟨LT3.but BX (by omega), (HS2.out.2.1.kept ky3).but BX (by omega), NR8, ND8, (hC.kept ky3).but BX (by omega), ((HS2.out.2.2.2.2.transK ky3).grown hgrow (fun k hk => .inl (by have := (own_lt hO9.1 hk).1; omega))).setNew (by simp; omega) _, by rw [List.length_set]; exact HRL.out.1, five_set HRL.out.2.2.1 HR0.out⟩
          clear ND8 NR8 BX B8 row8 hc8 hf8 hown hgrow hO9 NR3 LT3 L9 ky3 HS2 HR0 HGC hC ez hS7
          refine hK8.out _ _ (fun _ => hS6) ?_
          clear hK8 K8
          try simp only [Act.put]
          refine wpAnyZ_one (i := 11) (by kernel_rfl) rfl ?_
          intro K8 hK8
          rw [if_pos (by rfl)]
          go_simp
          refine hK8.out _ _ (fun _ => hS6) ?_
          clear hK8 K8
          try simp only [Act.put]
          refine wpAnyZ_one (i := 12) (by kernel_rfl) rfl ?_
          intro K8 hK8
          rw [if_pos (by rfl)]
          go_simp
          refine hK8.out _ _ (fun h => absurd rfl h) ?_
          clear hK8 K8
          refine wpAnyZ_done (by kernel_rfl) ?_ _
          try simp only [Act.put]
          clear gc8 gf8 hS6 hpd hpi hpos
          generalize rs.set 0 (.slice ao3 (l0.length + 1) cp3, l0 ++ [zt - 1]) = rs2 at HALL
          generalize w3.setCell ⟨g5, 0, none⟩ (.slice ao3 (l0.length + 1) cp3) = wx at HALL ⊢
          obtain ⟨H2, hH2⟩ : ∃ x, w3.heap.size = x := ⟨_, rfl⟩
          rw [hH2] at HALL
          generalize Value.slice (some ⟨g5, 0, none⟩) rs.length cR = rv at HALL ⊢
          obtain ⟨LT, ZR, NR, ND, hC, hg, HL2⟩ := HALL.out
          have HL3 : Hid (rs2.length = sn ∧ ∀ p ∈ rs2, p.2.length ≤ 5) := HL2
          clear HALL HL2
          have t0 := LT.cell 0 rfl
          have t1 := LT.cell 1 rfl
          have t2 := LT.cell 2 rfl
          have u0 := ZR.cell 0 rfl
          have uf0 := ZR.frozen 0
          have U1 := ZR.set 0 (.int .i64 (sn : Int))
          simp only [List.set_cons_zero] at U1
          have u1 := U1.cell 1 rfl
          have uf1 := U1.frozen 1
          have U2 := U1.set 1 rv
          simp only [List.set_cons_zero, List.set_cons_succ] at U2
          have u2 := U2.cell 2 rfl
          have uf2 := U2.frozen 2
          have U3 := U2.set 2 dv
          simp only [List.set_cons_zero, List.set_cons_succ] at U3
          have v0 := U3.cell 0 rfl
          have v1 := U3.cell 1 rfl
          have v2 := U3.cell 2 rfl
          have B9 : But w.heap.size (w.heap.size + 1) wx (((wx.setCell ⟨w.heap.size, 0, none⟩ (.int .i64 (sn : Int))).setCell ⟨w.heap.size, 1, none⟩ rv).setCell ⟨w.heap.size, 2, none⟩ dv) := (((But.refl _ _ _).setCell (by simp) (by simp) _).setCell (by simp) (by simp) _).setCell (by simp) (by simp) _
          have HF : Hid (NumsI (((wx.setCell ⟨w.heap.size, 0, none⟩ (.int .i64 (sn : Int))).setCell ⟨w.heap.size, 1, none⟩ rv).setCell ⟨w.heap.size, 2, none⟩ dv) B2 H2 rv rs2 ∧ NumsO (((wx.setCell ⟨w.heap.size, 0, none⟩ (.int .i64 (sn : Int))).setCell ⟨w.heap.size, 1, none⟩ rv).setCell ⟨w.heap.size, 2, none⟩ dv) M wx.heap.size dv ds ∧ CurOk (((wx.setCell ⟨w.heap.size, 0, none⟩ (.int .i64 (sn : Int))).setCell ⟨w.heap.size, 1, none⟩ rv).setCell ⟨w.heap.size, 2, none⟩ dv) b (K + 2 + 80 + 2 + 2) ∧ But b (b + 1) w (((wx.setCell ⟨w.heap.size, 0, none⟩ (.int .i64 (sn : Int))).setCell ⟨w.heap.size, 1, none⟩ rv).setCell ⟨w.heap.size, 2, none⟩ dv)) := ⟨NR.but B9 (by omega), ND.but B9 (by omega), ((hC.set hbT.1 0 _).set hbT.1 1 _).set hbT.1 2 _, ((hg.setNew (by simp) _).setNew (by simp) _).setNew (by simp) _⟩
          obtain ⟨ar, cr, hrf⟩ := NR.form
          obtain ⟨ad, cd, hdf⟩ := ND.form
          clear U1 U2 U3 LT ZR NR ND hC hg B9
          subst hrf hdf
          repeat (first | go_values | go_skip | go_guarded | go_step | go_upon)
          refine bodyPost_ret (v := .agg #[.int .i64 (sn : Int), .slice ar rs2.length cr, .slice ad ds.length cd]) (by simp [results, Try.results68, go_sem, *]) rfl ?_
          have hc1 := cost5 rs2 HL3.out.2
          have hc2 := cost5 ds HRL.out.2.2.2.five
          have hl := And.intro HL3.out.1 HRL.out.2.1
          refine ⟨((sn : Int), rs2.map Prod.snd, ds.map Prod.snd), _, rfl, ⟨_, _, rs2, ds, rfl, HF.out.1.low.mono (by omega) (Nat.le_refl _), (NumsI.of HF.out.2.1).low.mono (by omega) (Nat.le_refl _), rfl, rfl⟩, by show 0 ≤ (sn : Int); omega, by show (sn : Int) ≤ 7; omega, by show lLCost (rs2.map Prod.snd) + lLCost (ds.map Prod.snd) ≤ 1000; omega, HF.out.2.2.1.le (by omega), HF.out.2.2.2⟩
        · have d0 : (z == 0) = false := by simpa using hza
          have d1 : (z == 1) = false := by simpa using hzb
          have NR := NumsI.of NR
          have t0 := LT.cell 0 rfl
          have t1 := LT.cell 1 rfl
          have t2 := LT.cell 2 rfl
          have u0 := ZR.cell 0 rfl
          have uf0 := ZR.frozen 0
          have U1 := ZR.set 0 (.int .i64 (sn : Int))
          simp only [List.set_cons_zero] at U1
          have u1 := U1.cell 1 rfl
          have uf1 := U1.frozen 1
          have U2 := U1.set 1 rv
          simp only [List.set_cons_zero, List.set_cons_succ] at U2
          have u2 := U2.cell 2 rfl
          have uf2 := U2.frozen 2
          have U3 := U2.set 2 dv
          simp only [List.set_cons_zero, List.set_cons_succ] at U3
          have v0 := U3.cell 0 rfl
          have v1 := U3.cell 1 rfl
          have v2 := U3.cell 2 rfl
          have B9 : But w.heap.size (w.heap.size + 1) wp (((wp.setCell ⟨w.heap.size, 0, none⟩ (.int .i64 (sn : Int))).setCell ⟨w.heap.size, 1, none⟩ rv).setCell ⟨w.heap.size, 2, none⟩ dv) := (((But.refl _ _ _).setCell (by simp) (by simp) _).setCell (by simp) (by simp) _).setCell (by simp) (by simp) _
          have HF : Hid (NumsI (((wp.setCell ⟨w.heap.size, 0, none⟩ (.int .i64 (sn : Int))).setCell ⟨w.heap.size, 1, none⟩ rv).setCell ⟨w.heap.size, 2, none⟩ dv) B2 M rv rs ∧ NumsO (((wp.setCell ⟨w.heap.size, 0, none⟩ (.int .i64 (sn : Int))).setCell ⟨w.heap.size, 1, none⟩ rv).setCell ⟨w.heap.size, 2, none⟩ dv) M wp.heap.size dv ds ∧ CurOk (((wp.setCell ⟨w.heap.size, 0, none⟩ (.int .i64 (sn : Int))).setCell ⟨w.heap.size, 1, none⟩ rv).setCell ⟨w.heap.size, 2, none⟩ dv) b (K + 2 + 80 + 2) ∧ But b (b + 1) w (((wp.setCell ⟨w.heap.size, 0, none⟩ (.int .i64 (sn : Int))).setCell ⟨w.heap.size, 1, none⟩ rv).setCell ⟨w.heap.size, 2, none⟩ dv)) := ⟨NR.but B9 (by omega), ND.but B9 (by omega), ((hC.set hbT.1 0 _).set hbT.1 1 _).set hbT.1 2 _, ((hg.setNew (by simp) _).setNew (by simp) _).setNew (by simp) _⟩
          obtain ⟨ar, cr, hrf⟩ := NR.form
          obtain ⟨ad, cd, hdf⟩ := ND.form
          clear U1 U2 U3 LT ZR NR ND hC hg B9
          subst hrf hdf
          repeat (first | go_values | go_skip | go_guarded | go_step | go_upon)
          refine bodyPost_ret (v := .agg #[.int .i64 (sn : Int), .slice ar rs.length cr, .slice ad ds.length cd]) (by simp [results, Try.results68, go_sem, *]) rfl ?_
          have hc1 := cost5 rs HRL.out.2.2.1.five
          have hc2 := cost5 ds HRL.out.2.2.2.five
          have hl := HRL.out
          refine ⟨((sn : Int), rs.map Prod.snd, ds.map Prod.snd), _, rfl, ⟨_, _, rs, ds, rfl, HF.out.1.low.mono (by omega) (Nat.le_refl _), (NumsI.of HF.out.2.1).low.mono (by omega) (Nat.le_refl _), rfl, rfl⟩, by show 0 ≤ (sn : Int); omega, by show (sn : Int) ≤ 7; omega, by show lLCost (rs.map Prod.snd) + lLCost (ds.map Prod.snd) ≤ 1000; omega, HF.out.2.2.1.le (by omega), HF.out.2.2.2⟩


end Go.Proofs.Ytopakblckajdmaa
