/-
  A bind put behind others.
-/
import Derived.Test.YthkfpbknfjapaaaBinds
import Derived.Test.YthkfpbknfjapaaaApp17
import Derived.Maps.AppendAt
namespace Go.Proofs.Ythkfpbknfjapaaa
open Go.ChangeShapes Go.WideShapes Go.ChangeAt Go.RowKit

set_option maxRecDepth 100000
set_option linter.unusedVariables false
theorem app_row {W w2 : World} {lo hi : Nat} {e : TypeId} {size : Nat} {v v' : Value} {n m : Nat} {xs ys : List Value} (ho : RowO W lo hi e size v n xs) (hown : w2.ownsRow lo e size v' m ys) (hg : W.grownBy w2 v.ownBlock) :
    RowO w2 lo w2.heap.size e size v' m ys ∧ (∀ u, Kept u W → u.heap.size ≤ lo → Kept u w2) := by
  have hlo : ∀ g, v.ownBlock = some g → lo ≤ g := fun g h => (own_lt ho.1 h).1
  refine ⟨RowO.top hown, fun u hk hu => hk.grown hg (fun k h => .inl ?_)⟩
  have := hlo k h
  omega
theorem grown_but {W w2 : World} {v : Value} (hg : W.grownBy w2 v.ownBlock) : But (blo v) (bhi v) W w2 := by
  refine (But.refl _ _ W).grown hg (fun k hk => .inr ?_)
  unfold blo bhi
  rw [hk]
  simp
/-- A bind put behind others. -/
theorem app_bind {W w2 : World} {lo : Nat} {v v' : Value} {n : Nat} {ps : List BindE} {t : BindE} (ho : BindO W lo W.heap.size v ps) (hn : ps.length = n) (ht : NumO W lo W.heap.size t.2.1 t.2.2) (hap : ∀ (i : Nat) (p : BindE), ps[i]? = some p → Ap p.2.1 t.2.1)
    (hown : w2.ownsRow lo 85 2 v' (n + 1) (ps.flatMap bindC ++ bindC t)) (hg : W.grownBy w2 v.ownBlock) :
    BindO w2 lo w2.heap.size v' (ps ++ [t]) ∧ (∀ u, Kept u W → u.heap.size ≤ lo → Kept u w2) := by
  subst hn
  have h := app_row ho.row hown hg
  have hsz := hg.size
  refine ⟨⟨?_, fun i p hp => ?_, fun i j p p' hij hp hp' => ?_⟩, h.2⟩
  · rw [List.length_append, List.flatMap_append]
    simpa using h.1
  · rcases Nat.lt_or_ge i ps.length with hi | hi
    · rw [List.getElem?_append_left hi] at hp
      exact (RowO.apart (ho.inn i p hp) (grown_but hg) (ap_types ho.row (ho.inn i p hp) (by decide)).symm).mono (Nat.le_refl _) hsz
    · rw [List.getElem?_append_right hi] at hp
      have e : i - ps.length = 0 := by
        have := (List.getElem?_eq_some_iff.1 hp).1
        simp at this
        exact this
      rw [e] at hp
      simp at hp
      subst hp
      exact (RowO.apart ht (grown_but hg) (ap_types ho.row ht (by decide)).symm).mono (Nat.le_refl _) hsz
  · have key : ∀ (i : Nat) (p : BindE), (ps ++ [t])[i]? = some p → (i < ps.length ∧ ps[i]? = some p) ∨ (i = ps.length ∧ p = t) := fun i p hp => by
      rcases Nat.lt_or_ge i ps.length with hi | hi
      · rw [List.getElem?_append_left hi] at hp
        exact .inl ⟨hi, hp⟩
      · rw [List.getElem?_append_right hi] at hp
        have e : i - ps.length = 0 := by
          have := (List.getElem?_eq_some_iff.1 hp).1
          simp at this
          exact this
        rw [e] at hp
        simp at hp
        exact .inr ⟨by omega, hp.symm⟩
    rcases key i p hp with ⟨h1, h2⟩ | ⟨h1, rfl⟩
    · rcases key j p' hp' with ⟨h3, h4⟩ | ⟨h3, rfl⟩
      · exact ho.apart i j p p' hij h2 h4
      · exact hap i p h2
    · rcases key j p' hp' with ⟨h3, h4⟩ | ⟨h3, rfl⟩
      · exact (hap j p' h4).symm
      · exact absurd (h1.trans h3.symm) hij
theorem step_append_any {P : Program} {ops : Array Oper} {o : Oper} {a : Act} {w : World} {K : Act → World → Prop} {Q : Exit → Act → World → Prop} {E : Prop}
    (hg : o.guard = none) (s x : Operand) (t : TypeId) (hop : o.op = Op.call { callee := Callee.builtin Builtin.append, args := #[s, x], argTypes := #[t, t] })
    (base : Nat) (e : TypeId) (i : TypeInfo) (z : Value) (size bytes : Nat) (ht : P.underlying t = some (.slice e)) (hi : P.info? e = some i) (hz : i.zero = some z)
    (hsize : i.size = size) (hby : i.bytes = bytes) (hzs : z.cells.size = size) (hsz : 0 < size)
    (v : Value) (n : Nat) (xs : List Value) (hs : a.eval s = v) (hown : w.ownsRow base e size v n xs)
    (ao : Option Addr) (m c : Nat) (news : List Value) (hx : a.eval x = .slice ao m c) (hl : news.length = m * size) (hnews : ∀ j u, news[j]? = some u → ∃ ad, ao = some ad ∧ w.cell? (ad.add j) = some u) (h1 : ∀ u ∈ news, u.oneCell' = true)
    (h63 : n + m ≤ maxLen) (hbytes : (n + m) * bytes ≤ 140737488355328) (hbase : base ≤ w.heap.size)
    (h : ∀ v' w', w'.ownsRow base e size v' (n + m) (xs ++ news) → w.grownBy w' v.ownBlock → K (a.put o.dst v') w') :
    if Region.wanted o (yielded ops a.tmps) = true then Oper.wp P o a w K Q else E := by
  have hw : Region.wanted o (yielded ops a.tmps) = true := by simp [Region.wanted, hg]
  rw [if_pos hw]
  cases ao with
  | some ad =>
    obtain ⟨v', w', hr, h2, h3, -, -⟩ := run_append_own_at (P := P) w base t o.type e i z size bytes ht hi hz hsize hby hzs hsz v n xs hown ad m c news hl (fun j u hu => by obtain ⟨ad', e1, h2⟩ := hnews j u hu; cases e1; exact h2) h1 h63 hbytes hbase
    exact Lib.wp_append_run w s x t t hop _ _ hs hx _ _ hr (h v' w' h2 h3)
  | none =>
    have hm : news = [] := by
      cases news with
      | nil => rfl
      | cons y l => obtain ⟨ad, e1, _⟩ := hnews 0 y rfl; cases e1
    subst hm
    obtain rfl : m = 0 := by
      rcases Nat.eq_zero_or_pos m with h0 | h0
      · exact h0
      · have := Nat.mul_pos h0 hsz
        simp at hl
        omega
    obtain ⟨ao', cap', hf, _⟩ := own_form hown
    have hcap : n ≤ cap' := by
      rcases hown.2 with ⟨hv, h0⟩ | ⟨g', c', cur, hv, _, _, hnc, _⟩
      · omega
      · rw [hf] at hv; cases hv; exact hnc
    have h2 := h v w (by simpa using hown) (World.grownBy.refl _ _)
    subst hf
    exact Lib.wp_append_run w s x t t hop _ _ hs hx _ _ (run_append_none w t o.type e i ht hi ao' n cap' c hcap) h2

theorem but_ne {v : Value} {b : Nat} (h : ∀ g, v.ownBlock = some g → g ≠ b) : b < blo v ∨ bhi v ≤ b := by
  unfold blo bhi
  cases hv : v.ownBlock with
  | none => right; simp
  | some g =>
    have := h g hv
    simp
    omega
theorem nil_binds (w : World) (lo hi : Nat) : BindsO w lo hi (.slice none 0 0) [] := ⟨[], ⟨⟨World.ownsRow_nil _ _ _ _, fun g hg => by simp [Value.ownBlock] at hg⟩, fun i p hp => by simp at hp, fun i j p p' _ hp => by simp at hp⟩, rfl⟩
theorem infoB : (Try.prog.info? 85).map (fun i => (i.zero, i.size, i.bytes)) = some (some (.agg #[.string ByteArray.empty, .slice none 0 0]), 2, 40) := by kernel_rfl
/-- A bind with a chord of its own put behind others. -/
theorem run_app_binds {w : World} {lo mid : Nat} {v : Value} {ds : List BindD} (hown : BindsO w lo mid v ds) {b : Nat} (t : ByteArray) (ao : Option Addr) (c : Nat) (l : List NumD) (hL : Loc w b [.string t, .slice ao l.length c]) (hsv : NumO w mid w.heap.size (.slice ao l.length c) l) (hlm : lo ≤ mid) (hmw : mid ≤ w.heap.size) (hb : ds.length + 1 ≤ 10000000) (ty : TypeId) :
    ∃ v' w', (Builtin.append_ #[23, 23] ty #[v, .slice (some ⟨b, 0, none⟩) 1 1]).run Try.prog w = .ok v' w' ∧ BindsO w' lo w'.heap.size v' (ds ++ [(t, l)]) ∧ (∀ u, Kept u w → u.heap.size ≤ lo → Kept u w') ∧ But (blo v) (bhi v) w w' ∧ (v'.ownBlock = v.ownBlock ∨ v'.ownBlock = some w.heap.size) := by
  obtain ⟨ts, h, e⟩ := hown
  have hlen := binds_len e
  obtain ⟨i0, hi0, hz0, hz1, hz2⟩ := info_parts infoB
  obtain ⟨v', w', hr, h2, h3, -, h5⟩ := run_append_own_at (P := Try.prog) w lo 23 ty 85 i0 (.agg #[.string ByteArray.empty, .slice none 0 0]) 2 40 Try.underlying23 hi0 hz0 hz1 hz2 rfl (by decide) v ts.length (ts.flatMap bindC) h.row.1 ⟨b, 0, none⟩ 1 1 (bindC (t, (.slice ao l.length c, l))) rfl (news1 hL) (fun u hu => by simp [bindC] at hu; rcases hu with rfl | rfl <;> rfl) (by unfold maxLen; omega) (by omega) (by omega)
  have ha := app_bind (t := (t, (.slice ao l.length c, l))) (h.mono (Nat.le_refl _) hmw) rfl (hsv.mono hlm (Nat.le_refl _)) (fun i p hp => ap_low (h.inn i p hp) hsv (.inl (Nat.le_refl _))) h2 h3
  exact ⟨v', w', hr, ⟨_, ha.1, by rw [List.map_append, e]; rfl⟩, ha.2, grown_but h3, h5⟩
theorem appw_binds {w : World} {ops : Array Oper} {rest : List Oper} {o : Oper} {a : Act} {Q : Exit → Act → World → Prop} (hgd : o.guard = none) (s x : Operand)
    (ho : o.op = .call { callee := .builtin .append, args := #[s, x], argTypes := #[23, 23] }) {lo mid : Nat} {v : Value} {ds : List BindD} (hs : a.eval s = v) (hown : BindsO w lo mid v ds) {b : Nat} (hx : a.eval x = .slice (some ⟨b, 0, none⟩) 1 1) (t : ByteArray) (ao : Option Addr) (c : Nat) (l : List NumD) (hL : Loc w b [.string t, .slice ao l.length c]) (hsv : NumO w mid w.heap.size (.slice ao l.length c) l) (hlm : lo ≤ mid) (hmw : mid ≤ w.heap.size) (hb : ds.length + 1 ≤ 10000000)
    (h : ∀ v' w', BindsO w' lo w'.heap.size v' (ds ++ [(t, l)]) → (∀ u, Kept u w → u.heap.size ≤ lo → Kept u w') → But (blo v) (bhi v) w w' → (v'.ownBlock = v.ownBlock ∨ v'.ownBlock = some w.heap.size) → wpList Try.prog ops Q rest (a.put o.dst v') w') : wpList Try.prog ops Q (o :: rest) a w := by
  obtain ⟨v', w', hr, h1, h2, h3, h4⟩ := run_app_binds hown t ao c l hL hsv hlm hmw hb o.type
  exact Lib.wpList_append_run w hgd s x 23 23 ho _ _ hs hx _ _ hr (h v' w' h1 h2 h3 h4)
theorem step_binds {w : World} {ops : Array Oper} {o : Oper} {a : Act} {K : Act → World → Prop} {Q : Exit → Act → World → Prop} {E : Prop} (hgd : o.guard = none) (s x : Operand)
    (ho : o.op = .call { callee := .builtin .append, args := #[s, x], argTypes := #[23, 23] }) {lo mid : Nat} {v : Value} {ds : List BindD} (hs : a.eval s = v) (hown : BindsO w lo mid v ds) {b : Nat} (hx : a.eval x = .slice (some ⟨b, 0, none⟩) 1 1) (t : ByteArray) (ao : Option Addr) (c : Nat) (l : List NumD) (hL : Loc w b [.string t, .slice ao l.length c]) (hsv : NumO w mid w.heap.size (.slice ao l.length c) l) (hlm : lo ≤ mid) (hmw : mid ≤ w.heap.size) (hb : ds.length + 1 ≤ 10000000)
    (h : ∀ v' w', BindsO w' lo w'.heap.size v' (ds ++ [(t, l)]) → (∀ u, Kept u w → u.heap.size ≤ lo → Kept u w') → But (blo v) (bhi v) w w' → (v'.ownBlock = v.ownBlock ∨ v'.ownBlock = some w.heap.size) → K (a.put o.dst v') w') : if Region.wanted o (yielded ops a.tmps) = true then Oper.wp Try.prog o a w K Q else E := by
  have hw : Region.wanted o (yielded ops a.tmps) = true := by simp [Region.wanted, hgd]
  rw [if_pos hw]
  obtain ⟨v', w', hr, h1, h2, h3, h4⟩ := run_app_binds hown t ao c l hL hsv hlm hmw hb o.type
  exact Lib.wp_append_run w s x 23 23 ho _ _ hs hx _ _ hr (h v' w' h1 h2 h3 h4)
theorem step_num {w : World} {ops : Array Oper} {o : Oper} {a : Act} {K : Act → World → Prop} {Q : Exit → Act → World → Prop} {E : Prop} (hgd : o.guard = none) (s x : Operand)
    (ho : o.op = .call { callee := .builtin .append, args := #[s, x], argTypes := #[39, 39] }) {lo hi : Nat} {v : Value} {ps : List NumD} (hs : a.eval s = v) (hown : NumO w lo hi v ps)
    {ao : Option Addr} {m c : Nat} {qs : List NumD} (hx : a.eval x = .slice ao m c) (hq : NumAt w (.slice ao m c) qs) (hm : m = qs.length) (hb : ps.length + qs.length ≤ 100000000) (hlo : lo ≤ w.heap.size)
    (h : ∀ v' w', NumO w' lo w'.heap.size v' (ps ++ qs) → But lo hi w w' → K (a.put o.dst v') w') : if Region.wanted o (yielded ops a.tmps) = true then Oper.wp Try.prog o a w K Q else E := by
  subst hm
  obtain ⟨i0, hi0, hz0, hz1, hz2⟩ := info_parts info_numA
  refine step_append_any hgd s x 39 ho lo 3 i0 (.int .i64 0) 1 8 Try.underlying39 hi0 hz0 hz1 hz2 rfl (by decide) v ps.length (ps.flatMap numC) hs hown.1 ao qs.length c (qs.flatMap numC) hx (by rw [flat_len 1 numC numC_len] <;> omega) (src_num hq) (ones_num qs) (by unfold maxLen; omega) (by omega) hlo ?_
  intro v' w' h1 h2
  refine h v' w' ?_ ?_
  · unfold NumO
    rw [List.length_append, List.flatMap_append]
    exact RowO.top h1
  · refine (But.refl _ _ w).grown h2 (fun g hg => .inr ?_)
    have := hown.1.lt g hg
    exact ⟨this.1, hown.2 g hg⟩

end Go.Proofs.Ythkfpbknfjapaaa
