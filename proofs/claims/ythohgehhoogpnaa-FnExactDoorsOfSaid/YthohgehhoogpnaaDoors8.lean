/-
  Lists of windows of rows: marks written over them.
-/
import Derived.Test.YthohgehhoogpnaaBesI8
namespace Go.Proofs.Ythohgehhoogpnaa
open Go.ChangeShapes Go.WideShapes Go.ChangeAt Go.RowKit

set_option maxRecDepth 100000
set_option linter.unusedVariables false
/-- A list that is a window of a row of the call's own. -/
def NumP (w : World) (lo hi : Nat) (v : Value) (l : List NumD) : Prop :=
  (v = .slice none 0 0 ∧ l = []) ∨ ∃ (R i cap c : Nat) (row : List NumD), v = .slice (some ⟨R, i, none⟩) l.length c ∧ lo ≤ R ∧ R < hi ∧ NumO w R (R + 1) (.slice (some ⟨R, 0, none⟩) row.length cap) row ∧ ∀ j x, l[j]? = some x → row[i + j]? = some x
section
variable {w w' : World} {lo hi lo' hi' : Nat} {v v' : Value} {l : List NumD}
theorem NumP.but (h : NumP w lo hi v l) (k : But lo' hi' w w') (ho : hi ≤ lo' ∨ hi' ≤ lo) : NumP w' lo hi v l := by
  rcases h with h | ⟨R, i, cap, c, row, h1, h2, h3, h4, h5⟩
  · exact .inl h
  · exact .inr ⟨R, i, cap, c, row, h1, h2, h3, h4.but k (by omega), h5⟩
theorem NumP.kept (h : NumP w lo hi v l) (k : Kept w w') : NumP w' lo hi v l := h.but k (by omega)
theorem NumP.mono (h : NumP w lo hi v l) (h1 : lo' ≤ lo) (h2 : hi ≤ hi') : NumP w lo' hi' v l := by
  rcases h with h | ⟨R, i, cap, c, row, e, a, b, r⟩
  · exact .inl h
  · exact .inr ⟨R, i, cap, c, row, e, by omega, by omega, r⟩
theorem NumP.at (h : NumP w lo hi v l) : NumAt w v l := by
  rcases h with ⟨rfl, rfl⟩ | ⟨R, i, cap, c, row, rfl, a, b, h4, h5⟩
  · exact ⟨none, 0, rfl, fun j x hx => by simp at hx⟩
  · refine ⟨some ⟨R, i, none⟩, c, rfl, fun j x hx => ⟨R, i, rfl, ?_⟩⟩
    have e1 : ∀ ys : List NumD, ys.flatMap numC = ys.map (Value.int .i64) := fun ys => by induction ys with
      | nil => rfl
      | cons y ys ih => simp [numC, ih]
    rw [e1, List.getElem?_map] at hx
    obtain ⟨y, hy, rfl⟩ := Option.map_eq_some_iff.1 hx
    exact (h4.cells (h5 j y hy)).1
theorem NumP.lt (h : NumP w lo hi v l) {g : Nat} (hg : v.ownBlock = some g) : lo ≤ g ∧ g < hi := by
  rcases h with ⟨rfl, rfl⟩ | ⟨R, i, cap, c, row, rfl, a, b, _⟩
  · simp [Value.ownBlock] at hg
  · simp [Value.ownBlock] at hg
    omega
theorem NumP.apart (h : NumP w lo hi v l) (k : But (blo v') (bhi v') w w') (ha : Ap v v') : NumP w' lo hi v l := by
  rcases h with h | ⟨R, i, cap, c, row, rfl, a, b, h4, h5⟩
  · exact .inl h
  · exact .inr ⟨R, i, cap, c, row, rfl, a, b, RowO.apart h4 k ha, h5⟩
theorem NumP.inner {a b : World} (k : But (blo v) (bhi v) a b) (h : NumP w lo hi v l) : But lo hi a b := by
  have h0 := @NumP.lt w lo hi v l h
  unfold blo bhi at k
  cases hv : v.ownBlock with
  | none => rw [hv] at k; exact But.of k
  | some g =>
    rw [hv] at k
    have h1 := h0 hv
    exact k.mono h1.1 (by simp; omega)
theorem NumP.types {u : Value} {e : TypeId} {m n : Nat} {xs : List Value} (hu : RowO w lo' hi' e m u n xs) (h : NumP w lo hi v l) (ne : e ≠ 3) : Ap u v := by
  rcases h with ⟨rfl, rfl⟩ | ⟨R, i, cap, c, row, rfl, a, b, h4, h5⟩
  · intro g _ h; simp [Value.ownBlock] at h
  · exact fun g hg hg' => ap_types hu h4 ne g hg hg'
end

set_option maxHeartbeats 2000000 in
theorem markNumP (ps : List NumD) (v : Value) (k lo hi : Nat) (w : World) (hv : NumP w lo hi v ps) (hb : k + ps.length ≤ 1000000000000) :
    Calls Try.prog 27 #[v, .int .i64 (k : Int)] w fun e w' => e = .returned (.int .i64 ((k + ps.length : Nat) : Int)) ∧ NumP w' lo hi v (mNum k ps.length) ∧ But (blo v) (bhi v) w w' := by
  rcases hv with ⟨rfl, rfl⟩ | ⟨R, i, cap, c, row, rfl, hlo, hhi, h4, h5⟩
  · go_enter Try.func27, Try.ntmps27
    go_wp2
    go_loopw [1, 5] (fun kk i wr => i = .int .i64 0 ∧ kk = .int .i64 (k : Int) ∧ wr = w) (fun kk i _ => 0)
    case atStart => exact ⟨rfl, rfl, rfl⟩
    case round =>
      obtain ⟨rfl, rfl, rfl⟩ := hrel
      go_wp2
      go_ret
      exact ⟨rfl, .inl ⟨rfl, rfl⟩, But.refl _ _ _⟩
  · go_enter Try.func27, Try.ntmps27
    go_wp2
    go_loopw [1, 5] (fun kk ix wr => ∃ (j : Nat) (r : List NumD), j ≤ ps.length ∧ ix = .int .i64 j ∧ kk = .int .i64 ((k + j : Nat) : Int) ∧ r.length = row.length ∧ NumO wr R (R + 1) (.slice (some ⟨R, 0, none⟩) row.length cap) r ∧ (∀ m x, (mix (mNum k ps.length) ps j)[m]? = some x → r[i + m]? = some x) ∧ But R (R + 1) w wr) (fun kk i _ => ps.length - (intOf i).toNat)
    case atStart => exact ⟨0, row, by omega, rfl, rfl, rfl, h4, by rw [mix_zero]; exact h5, But.refl _ _ _⟩
    case round =>
      obtain ⟨j, r, hj, rfl, rfl, hrl, ho, hrr, hkp⟩ := hrel
      by_cases hlt : j < ps.length
      · obtain ⟨p, hp⟩ : ∃ p, ps[j]? = some p := ⟨_, List.getElem?_eq_getElem hlt⟩
        have hmg : (mix (mNum k ps.length) ps j)[j]? = some p := by rw [mix_get _ _ _ (mNum_len _ _) hlt]; exact hp
        have hkb : k + j + 1 ≤ 1000000000000 := by omega
        have hrg := hrr j p hmg
        obtain ⟨d0, dz⟩ := ho.cells hrg
        have dz0 := dz (i + j)
        have d9 := ho.set hrl.symm hrg ((k + j : Nat) : Int)
        have HS : Hid _ := d9
        have HB : Hid (But R (R + 1) w wr) := hkp
        have HR : Hid ((∀ m x, (mix (mNum k ps.length) ps j)[m]? = some x → r[i + m]? = some x) ∧ i + j < r.length) := ⟨hrr, (List.getElem?_eq_some_iff.1 hrg).1⟩
        have HRL : Hid (r.length = row.length) := hrl
        clear d9 dz ho hkp hmg hrg hrr hrl h4 h5
        go_wp2
        have hst := mix_set _ _ j _ (mNum_len k ps.length) (mNum_get k _ j hlt)
        have e9 : ((k + j : Nat) : Int) = (k : Int) + j := by omega
        have h9 : NumO (wr.setCell ⟨R, i + j, none⟩ (.int .i64 ((k + j : Nat) : Int))) R (R + 1) (.slice (some ⟨R, 0, none⟩) row.length cap) (r.set (i + j) ((k + j : Nat) : Int)) := HS.out
        rw [e9] at h9
        refine ⟨⟨j + 1, r.set (i + j) ((k + j : Nat) : Int), hlt, by go_num, by congr 1, by rw [List.length_set]; exact HRL.out, by rw [e9]; exact h9, ?_, HB.out.trans ((But.refl _ _ _).setCell (p := ⟨R, i + j, none⟩) (Nat.le_refl _) (Nat.lt_succ_self _) _)⟩, by simp [intOf]; omega⟩
        intro m x hx
        rw [← hst] at hx
        rcases get_set hx with ⟨rfl, rfl⟩ | ⟨hne, hx⟩
        · rw [List.getElem?_set, if_pos rfl, if_pos HR.out.2]
        · rw [List.getElem?_set, if_neg (by omega)]
          exact HR.out.1 m x hx
      · have hke : j = ps.length := by omega
        subst hke
        rw [mix_all _ _ _ (mNum_len _ _) rfl] at hrr
        have HR : Hid _ := hrr
        have HO : Hid _ := ho
        have HRL : Hid (r.length = row.length) := hrl
        clear hrr ho hrl h4 h5
        go_wp2
        go_ret
        refine ⟨rfl, .inr ⟨R, i, cap, c, r, by rw [mNum_len], hlo, hhi, by rw [HRL.out]; exact HO.out, HR.out⟩, ?_⟩
        exact hkp

/-- A row of its own, whose lists are windows of rows of its own. -/
structure NumsP (w : World) (lo hi : Nat) (v : Value) (rs : List NumsE) : Prop where
  row : RowO w lo hi 27 1 v rs.length (rs.flatMap numsC)
  inn : ∀ (i : Nat) (r : NumsE), rs[i]? = some r → NumP w lo hi r.1 r.2
  apart : ∀ (i j : Nat) (r r' : NumsE), i ≠ j → rs[i]? = some r → rs[j]? = some r' → Ap r.1 r'.1
theorem NumsP.but {w w' : World} {lo hi lo' hi' : Nat} {v : Value} {rs : List NumsE} (h : NumsP w lo hi v rs) (k : But lo' hi' w w') (ho : hi ≤ lo' ∨ hi' ≤ lo) : NumsP w' lo hi v rs := ⟨RowO.but h.row k ho, fun i r hr => (h.inn i r hr).but k ho, h.apart⟩
theorem NumsP.kept {w w' : World} {lo hi : Nat} {v : Value} {rs : List NumsE} (h : NumsP w lo hi v rs) (k : Kept w w') : NumsP w' lo hi v rs := h.but k (by omega)
theorem NumsP.mono {w : World} {lo hi lo' hi' : Nat} {v : Value} {rs : List NumsE} (h : NumsP w lo hi v rs) (h1 : lo' ≤ lo) (h2 : hi ≤ hi') : NumsP w lo' hi' v rs := ⟨RowO.mono h.row h1 h2, fun i r hr => (h.inn i r hr).mono h1 h2, h.apart⟩
theorem NumsP.at {w : World} {lo hi : Nat} {v : Value} {rs : List NumsE} (h : NumsP w lo hi v rs) : NumsAt w v rs := ⟨own_row h.row.1, fun r hr => by
  obtain ⟨i, hi⟩ := List.mem_iff_getElem?.1 hr
  exact (h.inn i r hi).at⟩
theorem NumsP.form {w : World} {lo hi : Nat} {v : Value} {rs : List NumsE} (h : NumsP w lo hi v rs) : ∃ ao cap, v = .slice ao rs.length cap := by
  obtain ⟨ao, cap, e, _⟩ := own_form h.row.1
  exact ⟨ao, cap, e⟩
theorem NumsP.types {w : World} {lo hi : Nat} {v : Value} {rs : List NumsE} (h : NumsP w lo hi v rs) (i : Nat) (r : NumsE) (hr : rs[i]? = some r) : Ap v r.1 := NumP.types h.row (h.inn i r hr) (by decide)
theorem NumsP.inner {w w' : World} {lo hi : Nat} {v : Value} {rs : List NumsE} (h : NumsP w lo hi v rs) {i : Nat} {r : NumsE} (hr : rs[i]? = some r) {l' : List NumD} (k : But (blo r.1) (bhi r.1) w w') (hp : NumP w' lo hi r.1 l') : NumsP w' lo hi v (rs.set i (r.1, l')) := by
  have hil : i < rs.length := (List.getElem?_eq_some_iff.1 hr).1
  have hc : (rs.set i (r.1, l')).flatMap numsC = rs.flatMap numsC := by
    have e : ∀ ys : List NumsE, ys.flatMap numsC = ys.map Prod.fst := fun ys => by induction ys with
      | nil => rfl
      | cons y ys ih => simp [numsC, ih]
    rw [e, e]
    apply List.ext_getElem?
    intro n
    rw [List.getElem?_map, List.getElem?_map, List.getElem?_set]
    by_cases hn : i = n
    · subst hn
      rw [if_pos rfl, hr]
      simp [hil]
    · rw [if_neg hn]
  refine ⟨?_, fun j z hz => ?_, fun j m z z' hjm hz hz' => ?_⟩
  · rw [List.length_set, hc]
    exact RowO.apart h.row k (h.types i r hr)
  · rcases get_set hz with ⟨_, rfl⟩ | ⟨hji, hz⟩
    · exact hp
    · exact (h.inn j z hz).apart k (h.apart j i z r hji hz hr)
  · rcases get_set hz with ⟨hj, rfl⟩ | ⟨hj, hz⟩
    · rcases get_set hz' with ⟨hm, rfl⟩ | ⟨_, hz'⟩
      · exact absurd (hj.trans hm.symm) hjm
      · exact h.apart i m r z' (fun e => hjm (hj.trans e)) hr hz'
    · rcases get_set hz' with ⟨hm, rfl⟩ | ⟨_, hz'⟩
      · exact h.apart j i z r (fun e => hjm (e.trans hm.symm)) hz hr
      · exact h.apart j m z z' hjm hz hz'

set_option maxHeartbeats 4000000 in
theorem markNumsP (ps : List NumsE) (v : Value) (k lo hi : Nat) (w : World) (hv : NumsP w lo hi v ps) (hb : k + numsSum ps ≤ 1000000000000) (hn : ps.length ≤ 1000000000000) :
    Calls Try.prog 34 #[v, .int .i64 (k : Int)] w fun e w' => e = .returned (.int .i64 ((k + numsSum ps : Nat) : Int)) ∧ NumsP w' lo hi v (markNums k ps) ∧ But lo hi w w' := by
  obtain ⟨ao, cap, hsl⟩ := hv.form
  subst hsl
  go_enter Try.func34, Try.ntmps34
  go_wp2
  go_loopw [1, 5] (fun kk i wr => ∃ (j : Nat), j ≤ ps.length ∧ i = .int .i64 j ∧ kk = .int .i64 ((k + numsSum (ps.take j) : Nat) : Int) ∧ NumsP wr lo hi (.slice ao ps.length cap) (mix (markNums k ps) ps j) ∧ But lo hi w wr) (fun kk i _ => ps.length - (intOf i).toNat)
  case atStart => exact ⟨0, by omega, rfl, by simp [numsSum], by rw [mix_zero]; exact hv, But.refl _ _ _⟩
  case round =>
    obtain ⟨j, hj, rfl, rfl, ho, hkp⟩ := hrel
    by_cases hlt : j < ps.length
    · obtain ⟨p, hp⟩ : ∃ p, ps[j]? = some p := ⟨_, List.getElem?_eq_getElem hlt⟩
      have hmg : (mix (markNums k ps) ps j)[j]? = some p := by rw [mix_get _ _ _ (markNums_len _ _) hlt]; exact hp
      have hml : (mix (markNums k ps) ps j).length = ps.length := mix_len _ _ _ (markNums_len _ _) hj
      obtain ⟨b, o, cap1, e, c0, hpa⟩ := nums_get ho.at hmg
      rw [hml] at e
      cases e
      have hin := ho.inn j p hmg
      have hsn := numsSum_snoc (ps.take j) p
      rw [← take_snoc hp] at hsn
      have hst := numsSum_take ps (j + 1)
      have hset := mix_set _ _ j _ (markNums_len k ps) (markNums_get k ps j p hp)
      have HSET : Hid _ := hset
      have HMG : Hid ((mix (markNums k ps) ps j)[j]? = some p) := hmg
      obtain ⟨K, hK⟩ : ∃ K, k + numsSum (ps.take j) = K := ⟨_, rfl⟩
      have HK : Hid (k + numsSum (ps.take j) = K ∧ numsSum (ps.take (j + 1)) = numsSum (ps.take j) + p.2.length) := ⟨hK, hsn⟩
      have hKb : K + p.2.length ≤ 1000000000000 := by omega
      rw [hK]
      have HO : Hid _ := ho
      have HI : Hid _ := hin
      have HB : Hid _ := hkp
      clear hset hmg hsn hst hK ho hkp hv hml hp
      obtain ⟨ao3, cap3, hsl3⟩ := row_nil hpa
      obtain ⟨pv, l⟩ := p
      dsimp only at hsl3 c0 hKb
      subst hsl3
      clear hpa
      go_wp2_with (go_at_call 27; refine (markNumP l _ K lo hi _ HI.out hKb).mono ?_; rintro e w' ⟨rfl, ho2, hk2⟩)
      have hK := HK.out
      refine ⟨⟨j + 1, hlt, by go_num, by congr 1; omega, ?_, ?_⟩, by simp [intOf]; omega⟩
      · have := HSET.out
        rw [hK.1] at this
        rw [← this]
        exact NumsP.inner HO.out HMG.out hk2 ho2
      · exact HB.out.trans (NumP.inner hk2 HI.out)
    · have hke : j = ps.length := by omega
      subst hke
      rw [mix_all _ _ _ (markNums_len _ _) rfl] at ho
      go_wp2
      go_ret
      exact ⟨ret_int (by rw [List.take_length]), ho, hkp⟩

/-- The same as plain data. -/
def DLO (w : World) (lo hi : Nat) (v : Value) (fs : List (List NumD)) : Prop := ∃ rs, NumsP w lo hi v rs ∧ rs.map Prod.snd = fs
theorem DLO.kept {w w' : World} {lo hi : Nat} {v : Value} {fs : List (List NumD)} (h : DLO w lo hi v fs) (k : Kept w w') : DLO w' lo hi v fs := h.imp fun _ h => ⟨h.1.kept k, h.2⟩
theorem DLO.but {w w' : World} {lo hi lo' hi' : Nat} {v : Value} {fs : List (List NumD)} (h : DLO w lo hi v fs) (k : But lo' hi' w w') (ho : hi ≤ lo' ∨ hi' ≤ lo) : DLO w' lo hi v fs := h.imp fun _ h => ⟨h.1.but k ho, h.2⟩
theorem DLO.mono {w : World} {lo hi lo' hi' : Nat} {v : Value} {fs : List (List NumD)} (h : DLO w lo hi v fs) (h1 : lo' ≤ lo) (h2 : hi ≤ hi') : DLO w lo' hi' v fs := h.imp fun _ h => ⟨h.1.mono h1 h2, h.2⟩
theorem DLO.at {w : World} {lo hi : Nat} {v : Value} {fs : List (List NumD)} (h : DLO w lo hi v fs) : LLAt w v fs := h.imp fun _ h => ⟨h.1.at, h.2⟩
theorem DLO.form {w : World} {lo hi : Nat} {v : Value} {fs : List (List NumD)} (h : DLO w lo hi v fs) : ∃ ao cap, v = .slice ao fs.length cap := h.at.form
theorem markDL (fs : List (List NumD)) (v : Value) (k lo hi : Nat) (w : World) (hv : DLO w lo hi v fs) (hb : k + lLSum fs ≤ 1000000000000) (hn : fs.length ≤ 1000000000000) :
    Calls Try.prog 34 #[v, .int .i64 (k : Int)] w fun e w' => e = .returned (.int .i64 ((k + lLSum fs : Nat) : Int)) ∧ DLO w' lo hi v (mLL k fs) ∧ But lo hi w w' := by
  obtain ⟨rs, h, rfl⟩ := hv
  have := markNumsP rs v k lo hi w h (by rw [lLSum_of]; exact hb) (by simpa using hn)
  rw [lLSum_of] at this
  exact this.mono fun e w' ⟨he, ho, kb⟩ => ⟨he, ⟨_, ho, mLL_of k rs⟩, kb⟩
theorem NumP.of {w : World} {lo hi : Nat} {v : Value} {l : List NumD} (h : NumO w lo hi v l) : NumP w lo hi v l := by
  rcases h.1.2 with ⟨e1, e2⟩ | ⟨g, cap, cur, e, hb, hr⟩
  · exact .inl ⟨e1, List.eq_nil_of_length_eq_zero e2⟩
  · subst e
    have hg := h.2 g rfl
    refine .inr ⟨g, 0, cap, cap, l, rfl, hb, hg, ⟨⟨h.1.1, .inr ⟨g, cap, cur, rfl, Nat.le_refl _, hr⟩⟩, fun x hx => ?_⟩, fun j x hx => by simpa using hx⟩
    simp [Value.ownBlock] at hx
    omega
theorem NumP.door {w : World} {lo : Nat} {v : Value} {d : List NumD} (h : DoorV w lo v d) : NumP w lo w.heap.size v d := by
  rcases h with h | ⟨R, i, n, cap, r, p, q, h1, h2, h3, rfl, h5, h6, rfl⟩
  · exact .inl h
  · refine .inr ⟨R, i, cap, 2, r, h1, h2, (own_lt h3.1 rfl).2, h3, fun j x hx => ?_⟩
    match j, hx with
    | 0, hx => cases hx; exact h5
    | 1, hx => cases hx; exact h6
theorem NumsP.snoc {wr w1 w2 : World} {lo : Nat} {v v' dv : Value} {rs : List NumsE} {d : List NumD} {o : Obj} (h : NumsP wr lo wr.heap.size v rs) (k1 : Kept wr w1) (hl : lo ≤ wr.heap.size) (hd : NumP w1 wr.heap.size w1.heap.size dv d)
    (hown : w2.ownsRow lo 27 1 v' (rs.length + 1) (rs.flatMap numsC ++ [dv])) (hg : (w1.alloc o).grownBy w2 v.ownBlock) : NumsP w2 lo w2.heap.size v' (rs ++ [(dv, d)]) := by
  have ka : Kept wr (w1.alloc o) := k1.alloc o
  have kb : Kept w1 (w1.alloc o) := (But.refl _ _ w1).alloc o
  have sz : w1.heap.size ≤ w2.heap.size := Nat.le_trans kb.size hg.size
  have row1 := RowO.kept h.row ka
  have B := but_of_grown hg
  have old : ∀ (i : Nat) (r : NumsE), rs[i]? = some r → NumP w2 lo wr.heap.size r.1 r.2 := fun i r hr => ((h.inn i r hr).kept ka).apart B (h.types i r hr).symm
  have new : NumP w2 wr.heap.size w1.heap.size dv d := (hd.kept kb).apart B (NumP.types row1 (hd.kept kb) (by decide)).symm
  have get : ∀ (i : Nat) (r : NumsE), (rs ++ [(dv, d)])[i]? = some r → rs[i]? = some r ∨ (i = rs.length ∧ r = (dv, d)) := fun i r hr => by
    by_cases hi : i < rs.length
    · rw [List.getElem?_append_left hi] at hr
      exact .inl hr
    · rw [List.getElem?_append_right (by omega)] at hr
      have : i - rs.length = 0 := by
        have := (List.getElem?_eq_some_iff.1 hr).1
        simp at this
        omega
      rw [this] at hr
      cases hr
      exact .inr ⟨by omega, rfl⟩
  have far : ∀ (i : Nat) (r : NumsE), rs[i]? = some r → Ap r.1 dv := fun i r hr g hg hg' => by
    have := (old i r hr).lt hg
    have := new.lt hg'
    omega
  refine ⟨?_, fun i r hr => ?_, fun i j r r' hij hr hr' => ?_⟩
  · rw [List.length_append, List.flatMap_append]
    exact RowO.top hown
  · rcases get i r hr with hr | ⟨_, rfl⟩
    · exact (old i r hr).mono (Nat.le_refl _) (by have := k1.size; omega)
    · exact new.mono hl sz
  · rcases get i r hr with hr | ⟨hi, rfl⟩ <;> rcases get j r' hr' with hr' | ⟨hj, rfl⟩
    · exact h.apart i j r r' hij hr hr'
    · exact far i r hr
    · exact (far j r' hr').symm
    · exact absurd (hi.trans hj.symm) hij
theorem DLO.snoc {wr w1 w2 : World} {lo : Nat} {v v' dv : Value} {fs : List (List NumD)} {d : List NumD} {o : Obj} {rs : List NumsE} (h : NumsP wr lo wr.heap.size v rs) (he : rs.map Prod.snd = fs) (k1 : Kept wr w1) (hl : lo ≤ wr.heap.size) (hd : NumP w1 wr.heap.size w1.heap.size dv d)
    (hown : w2.ownsRow lo 27 1 v' (rs.length + 1) (rs.flatMap numsC ++ [dv])) (hg : (w1.alloc o).grownBy w2 v.ownBlock) : DLO w2 lo w2.heap.size v' (fs ++ [d]) := ⟨_, h.snoc k1 hl hd hown hg, by simp [he]⟩
theorem DLO.nil (w : World) (lo hi : Nat) : DLO w lo hi (.slice none 0 0) [] := ⟨[], ⟨⟨World.ownsRow_nil _ _ _ _, fun g hg => by simp [Value.ownBlock] at hg⟩, fun i r h => by simp at h, fun i j r r' _ h => by simp at h⟩, rfl⟩

end Go.Proofs.Ythohgehhoogpnaa
