/-
  Lists of turns: how they lie in memory, compared, marked, and their marks found again.
-/
import Derived.Test.YtghmnhohdbombaaSt16
namespace Go.Proofs.Ytghmnhohdbombaa
open Go.ChangeShapes Go.WideShapes Go.ChangeAt Go.RowKit Ieee
set_option maxRecDepth 100000
abbrev TnD := Nat × Nat
def tnC (p : TnD) : List Value := [.float .f64 p.1, .float .f64 p.2]
theorem tnC_len (p : TnD) : (tnC p).length = 2 := rfl
def tn0 : TnD := (0, 0)
def TnAt (w : World) (v : Value) (ps : List TnD) : Prop := RowAt w v ps.length (ps.flatMap tnC)
def TnO (w : World) (lo hi : Nat) (v : Value) (ps : List TnD) : Prop := RowO w lo hi 55 2 v ps.length (ps.flatMap tnC)
theorem TnAt.kept {w w' : World} {v : Value} {ps : List TnD} (h : TnAt w v ps) (k : Kept w w') : TnAt w' v ps := RowAt.kept h k
theorem TnO.kept {w w' : World} {lo hi : Nat} {v : Value} {ps : List TnD} (h : TnO w lo hi v ps) (k : Kept w w') : TnO w' lo hi v ps := RowO.kept h k
theorem TnO.but {w w' : World} {lo hi lo' hi' : Nat} {v : Value} {ps : List TnD} (h : TnO w lo hi v ps) (k : But lo' hi' w w') (ho : hi ≤ lo' ∨ hi' ≤ lo) : TnO w' lo hi v ps := RowO.but h k ho
theorem TnO.mono {w : World} {lo hi lo' hi' : Nat} {v : Value} {ps : List TnD} (h : TnO w lo hi v ps) (h1 : lo' ≤ lo) (h2 : hi ≤ hi') : TnO w lo' hi' v ps := RowO.mono h h1 h2
theorem TnO.low {w : World} {lo hi : Nat} {v : Value} {ps : List TnD} (h : TnO w lo hi v ps) : TnO w lo w.heap.size v ps := RowO.low h
theorem TnO.at {w : World} {lo hi : Nat} {v : Value} {ps : List TnD} (h : TnO w lo hi v ps) : TnAt w v ps := own_row h.1
theorem TnO.form {w : World} {lo hi : Nat} {v : Value} {ps : List TnD} (h : TnO w lo hi v ps) : ∃ ao cap, v = .slice ao ps.length cap := by
  obtain ⟨ao, cap, e, _⟩ := own_form h.1
  exact ⟨ao, cap, e⟩
theorem tn_get {w : World} {v : Value} {ps : List TnD} (h : TnAt w v ps) {i : Nat} {p : TnD} (hp : ps[i]? = some p) :
    ∃ b o cap, v = .slice (some ⟨b, o, none⟩) ps.length cap ∧ w.cell? ⟨b, o + i * 2, none⟩ = some (.float .f64 p.1) ∧ w.cell? ⟨b, o + i * 2 + 1, none⟩ = some (.float .f64 p.2) := by
  obtain ⟨b, o, cap, e, hc⟩ := row_get 2 tnC tnC_len (by omega) h hp
  exact ⟨b, o, cap, e, hc 0 _ rfl, hc 1 _ rfl⟩
theorem TnO.cells {w : World} {lo hi g cap n : Nat} {ps : List TnD} (h : TnO w lo hi (.slice (some ⟨g, 0, none⟩) n cap) ps) {i : Nat} {p : TnD} (hp : ps[i]? = some p) :
    w.cell? ⟨g, i * 2, none⟩ = some (.float .f64 p.1) ∧ w.cell? ⟨g, i * 2 + 1, none⟩ = some (.float .f64 p.2) ∧ ∀ o, w.frozen? ⟨g, o, none⟩ = false := by
  obtain ⟨hc, hf⟩ := own_get 2 tnC tnC_len (by omega) h hp
  exact ⟨hc 0 _ rfl, hc 1 _ rfl, hf⟩
theorem TnO.set {w : World} {lo hi g cap n : Nat} {ps : List TnD} (h : TnO w lo hi (.slice (some ⟨g, 0, none⟩) n cap) ps) (hn : n = ps.length) {i : Nat} {p q : TnD} (hp : ps[i]? = some p) (j : Nat) (hj : j < 2) (u : Value) (hu : (tnC p).set j u = tnC q) :
    TnO (w.setCell ⟨g, i * 2 + j, none⟩ u) lo hi (.slice (some ⟨g, 0, none⟩) n cap) (ps.set i q) := by
  subst hn
  have := RowO.set h (i * 2 + j) u
  unfold TnO
  rw [List.length_set]
  rw [Nat.mul_comm i 2] at this ⊢
  rw [flat_set 2 tnC tnC_len ps i j p q u hp hj hu] at this
  exact this
/-- An element of a row's own set anew, field by field. -/
theorem TnO.store {w : World} {lo hi g cap n : Nat} {ps : List TnD} (h : TnO w lo hi (.slice (some ⟨g, 0, none⟩) n cap) ps) (hn : n = ps.length) {i : Nat} {p : TnD} (hp : ps[i]? = some p) (q : TnD) :
    (w.setCell ⟨g, i * 2, none⟩ (.float .f64 q.1)).cell? ⟨g, i * 2 + 1, none⟩ = some (.float .f64 p.2) ∧
    TnO ((w.setCell ⟨g, i * 2, none⟩ (.float .f64 q.1)).setCell ⟨g, i * 2 + 1, none⟩ (.float .f64 q.2)) lo hi (.slice (some ⟨g, 0, none⟩) n cap) (ps.set i q) := by
  have hi' : i < ps.length := (List.getElem?_eq_some_iff.1 hp).1
  have h1 := h.set (by simpa using hn) hp 0 (by omega) (.float .f64 q.1) (q := (q.1, p.2)) rfl
  have g1 : (ps.set i (q.1, p.2))[i]? = some (q.1, p.2) := by simp [hi']
  have h2 := h1.set (by simpa using hn) g1 1 (by omega) (.float .f64 q.2) (q := q) rfl
  refine ⟨(h1.cells g1).2.1, by simpa using h2⟩

theorem fi_num (z : Int) : nanB (floatOfInt .f64 z) = false := by
  have : floatOfInt .f64 z = double.write (.number (decide (z < 0)) z.natAbs 0) := rfl
  rw [this]
  exact (write_nan _ rfl).1
theorem eqTn (f0 f1 : Nat) (w : World) : Calls Try.prog 57 #[.agg #[.float .f64 f0, .float .f64 f1], .agg #[.float .f64 f0, .float .f64 f1]] w fun e w' => e = .returned (.bool true) ∧ Kept w w' := eqTurn f0 f1 w

set_option maxHeartbeats 2000000 in
theorem eqTnS (ps : List TnD) (v v' : Value) (w : World) (hv : TnAt w v ps) (hv' : TnAt w v' ps) (hn : ps.length ≤ 9000000000000000000) :
    Calls Try.prog 24 #[v, v'] w fun e w' => e = .returned (.bool true) ∧ Kept w w' := by
  obtain ⟨ao, cap, hsl⟩ := row_nil hv
  subst hsl
  obtain ⟨ao', cap', hsl⟩ := row_nil hv'
  subst hsl
  go_enter Try.func24, Try.ntmps24
  go_wp2
  go_loopw [5] (fun i wr => ∃ (k : Nat), k ≤ ps.length ∧ i = .int .i64 k ∧ Kept w wr) (fun i _ => ps.length - (intOf i).toNat)
  case atStart => exact ⟨0, by omega, rfl, But.refl _ _ _⟩
  case round =>
    obtain ⟨k, hk, rfl, hkp⟩ := hrel
    by_cases hlt : k < ps.length
    · obtain ⟨p, hp⟩ : ∃ p, ps[k]? = some p := ⟨_, List.getElem?_eq_getElem hlt⟩
      obtain ⟨b, o, cap1, e, c0, c1⟩ := tn_get (hv.kept hkp) hp
      cases e
      obtain ⟨b', o', cap1', e, c0', c1'⟩ := tn_get (hv'.kept hkp) hp
      cases e
      have z1 : (0 : Int) ≤ (k : Int) := by omega
      have z2 : (k : Int) < (ps.length : Int) := by omega
      have HK : Hid _ := hkp
      clear hkp
      go_wp2_with fail
      go_region_held3 (fun w' => w'.cell? ⟨b, o + k * 2, none⟩ = some (.float .f64 p.1) ∧ w'.cell? ⟨b, o + k * 2 + 1, none⟩ = some (.float .f64 p.2) ∧ w'.cell? ⟨b', o' + k * 2, none⟩ = some (.float .f64 p.1) ∧ w'.cell? ⟨b', o' + k * 2 + 1, none⟩ = some (.float .f64 p.2)) (simp [go_sem, *])
        (first | (go_at_call 57; refine (eqTn _ _ _).mono ?_; rintro e w' ⟨rfl, hk2⟩; have c0 := Kept.cell hk2 c0; have c1 := Kept.cell hk2 c1; have c0' := Kept.cell hk2 c0'; have c1' := Kept.cell hk2 c1'))
      go_wp2
      exact ⟨⟨k + 1, hlt, by go_num, HK.out.trans ((But.refl _ _ wr).drew.trans hk2)⟩, by simp [intOf]; omega⟩
    · have hke : k = ps.length := by omega
      subst hke
      go_wp2
      go_ret
      exact ⟨rfl, hkp⟩

def mTn (k i : Nat) : TnD := ((floatOfInt .f64 (((k + 2 * i : Nat) : Int))), (floatOfInt .f64 (((k + 2 * i : Nat) : Int) + 1)))
def mTns (k n : Nat) : List TnD := (List.range n).map (mTn k)
theorem mTns_len (k n : Nat) : (mTns k n).length = n := by simp [mTns]
theorem mTns_get (k n i : Nat) (h : i < n) : (mTns k n)[i]? = some (mTn k i) := by simp [mTns, h]

set_option maxHeartbeats 4000000 in
theorem markTnS (ps : List TnD) (v : Value) (k lo hi : Nat) (w : World) (hv : TnO w lo hi v ps) (hb : k + 2 * ps.length ≤ 1000000000000) :
    Calls Try.prog 25 #[v, .int .i64 (k : Int)] w fun e w' => e = .returned (.int .i64 ((k + 2 * ps.length : Nat) : Int)) ∧ TnO w' lo hi v (mTns k ps.length) ∧ But (blo v) (bhi v) w w' := by
  obtain ⟨ao, cap, hsl, _⟩ := own_form hv.1
  subst hsl
  go_enter Try.func25, Try.ntmps25
  go_wp2
  go_loopw [1, 5] (fun kk i wr => ∃ (j : Nat), j ≤ ps.length ∧ i = .int .i64 j ∧ kk = .int .i64 ((k + 2 * j : Nat) : Int) ∧ TnO wr lo hi (.slice ao ps.length cap) (mix (mTns k ps.length) ps j) ∧ But (blo (.slice ao ps.length cap)) (bhi (.slice ao ps.length cap)) w wr) (fun kk i _ => ps.length - (intOf i).toNat)
  case atStart => exact ⟨0, by omega, rfl, rfl, by rw [mix_zero]; exact hv, But.refl _ _ _⟩
  case round =>
    obtain ⟨j, hj, rfl, rfl, ho, hkp⟩ := hrel
    by_cases hlt : j < ps.length
    · obtain ⟨p, hp⟩ : ∃ p, ps[j]? = some p := ⟨_, List.getElem?_eq_getElem hlt⟩
      have hmg : (mix (mTns k ps.length) ps j)[j]? = some p := by rw [mix_get _ _ _ (mTns_len _ _) hlt]; exact hp
      have hml : ps.length = (mix (mTns k ps.length) ps j).length := (mix_len _ _ _ (mTns_len _ _) hj).symm
      obtain ⟨b, o, cap1, e, _⟩ := tn_get ho.at hmg
      rw [← hml] at e
      cases e
      obtain ⟨g', cap', hfm, _⟩ : ∃ g cap', Value.slice (some ⟨b, o, none⟩) ps.length cap = .slice (some ⟨g, 0, none⟩) ps.length cap' ∧ True := by
        rcases ho.1.2 with ⟨hf, _⟩ | ⟨g, c2, cur, hf, _⟩
        · cases hf
        · rw [← hml] at hf; exact ⟨g, c2, hf, trivial⟩
      cases hfm
      have hkb : k + 2 * j + 2 ≤ 1000000000000 := by omega
      generalize hK : k + 2 * j = K at *
      have HK : Hid (k + 2 * j = K) := hK
      have HP : Hid _ := ho
      have HB : Hid _ := hkp
      have HM : Hid (ps.length = (mix (mTns k ps.length) ps j).length ∧ (mix (mTns k ps.length) ps j)[j]? = some p) := ⟨hml, hmg⟩
      clear hK ho hkp hv hml hmg
      have hk2 : Kept wr wr := But.refl _ _ _
      have ho2 := TnO.kept HP.out hk2
      obtain ⟨d0, d1, dz⟩ := ho2.cells HM.out.2
      have dz0 := dz (j * 2)
      have dz1 := dz (j * 2 + 1)
      obtain ⟨e1, d9⟩ := ho2.store HM.out.1 HM.out.2 ((floatOfInt .f64 ((K : Int))), (floatOfInt .f64 ((K : Int) + 1)))
      have HS : Hid _ := d9
      clear d9 dz ho2
      go_wp2
      have hK := HK.out
      have hmp : (mTns k ps.length)[j]? = some ((floatOfInt .f64 ((K : Int))), (floatOfInt .f64 ((K : Int) + 1))) := by
        rw [mTns_get k _ j hlt, mTn, hK]
      have hst := mix_set _ _ j _ (mTns_len k ps.length) hmp
      refine ⟨⟨j + 1, hlt, by go_num, by congr 1; omega, by rw [← hst]; exact HS.out, ?_⟩, by simp [intOf]; omega⟩
      exact ((HB.out.transK hk2).trans (but_set _ _ _ _ _ _)).trans (but_set _ _ _ _ _ _)
    · have hke : j = ps.length := by omega
      subst hke
      go_wp2
      go_ret
      refine ⟨rfl, ?_, hkp⟩
      rw [mix_all _ _ _ (mTns_len _ _) rfl] at ho
      exact ho

set_option maxHeartbeats 4000000 in
theorem heldTnS (n : Nat) (v : Value) (k : Nat) (w : World) (hv : TnAt w v (mTns k n)) (hb : k + 2 * n ≤ 1000000000000) :
    Calls Try.prog 26 #[v, .int .i64 (k : Int)] w fun e w' => e = .returned (.int .i64 ((k + 2 * n : Nat) : Int)) ∧ Kept w w' := by
  obtain ⟨ao, cap, hsl⟩ := row_nil hv
  rw [mTns_len] at hsl
  subst hsl
  go_enter Try.func26, Try.ntmps26
  go_wp2
  go_loopw [1, 5] (fun kk i wr => ∃ (j : Nat), j ≤ n ∧ i = .int .i64 j ∧ kk = .int .i64 ((k + 2 * j : Nat) : Int) ∧ Kept w wr) (fun kk i _ => n - (intOf i).toNat)
  case atStart => exact ⟨0, by omega, rfl, rfl, But.refl _ _ _⟩
  case round =>
    obtain ⟨j, hj, rfl, rfl, hkp⟩ := hrel
    by_cases hlt : j < n
    · obtain ⟨b, o, cap1, e, c0, c1⟩ := tn_get (hv.kept hkp) (mTns_get k n j hlt)
      rw [mTns_len] at e
      cases e
      have hkb : k + 2 * j + 2 ≤ 1000000000000 := by omega
      simp only [mTn] at c0 c1
      generalize hK : k + 2 * j = K at *
      have HK : Hid (k + 2 * j = K) := hK
      have HB : Hid _ := hkp
      have z1 : (0 : Int) ≤ (j : Int) := by omega
      have z2 : (j : Int) < (n : Int) := by omega
      clear hK hkp hv
      have hd0 : (FloatKind.f64.format.order (floatOfInt .f64 ((K : Int))) (floatOfInt .f64 ((K : Int))) != some Ordering.eq) = false := by rw [order_ne]; exact fi_num _
      have hd1 : (FloatKind.f64.format.order (floatOfInt .f64 ((K : Int) + 1)) (floatOfInt .f64 ((K : Int) + 1)) != some Ordering.eq) = false := by rw [order_ne]; exact fi_num _
      have hkk : Kept wr wr := But.refl _ _ _
      go_wp2
      have hK := HK.out
      exact ⟨⟨j + 1, hlt, by go_num, by congr 1; omega, HB.out.trans hkk⟩, by simp [intOf]; omega⟩
    · have hke : j = n := by omega
      subst hke
      go_wp2
      go_ret
      exact ⟨rfl, hkp⟩

end Go.Proofs.Ytghmnhohdbombaa
