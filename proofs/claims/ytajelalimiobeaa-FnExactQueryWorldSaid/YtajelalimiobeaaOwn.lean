/-
  Worlds that lie in memory of their own: no two of their rows share any.
-/
import Derived.Test.YtajelalimiobeaaData
namespace Go.Proofs.Ytajelalimiobeaa
open Go.ChangeShapes Go.WideShapes Go.ChangeAt Go.RowKit

/-- A row of its own, in a block from lo to below hi. -/
def RowO (w : World) (lo hi : Nat) (e : TypeId) (size : Nat) (v : Value) (n : Nat) (xs : List Value) : Prop :=
  w.ownsRow lo e size v n xs ∧ ∀ g, v.ownBlock = some g → g < hi
def Ap (a b : Value) : Prop := ∀ g, a.ownBlock = some g → b.ownBlock ≠ some g
def PartsO (w : World) (lo hi : Nat) (v : Value) (ps : List PD) : Prop := RowO w lo hi 89 3 v ps.length (partCells ps)
structure EntsO (w : World) (lo hi : Nat) (v : Value) (zs : List PE) : Prop where
  row : RowO w lo hi 36 2 v zs.length (entCells zs)
  parts : ∀ (i : Nat) z, zs[i]? = some z → PartsO w lo hi z.2.1 z.2.2
  each : ∀ (i j : Nat) z z', i ≠ j → zs[i]? = some z → zs[j]? = some z' → Ap z.2.1 z'.2.1
def WO (w : World) (lo hi : Nat) (v : Value) (D : WD) : Prop := ∃ ev zs, v = .agg #[.int .i64 D.1, .int .i64 D.2.1, ev] ∧ EntsO w lo hi ev zs ∧ zs.map strip = D.2.2

section
variable {w w' : World} {lo hi lo' hi' : Nat} {e e' : TypeId} {size size' : Nat} {v v' : Value} {n n' : Nat} {xs xs' : List Value}
theorem RowO.mono (h : RowO w lo hi e size v n xs) (h1 : lo' ≤ lo) (h2 : hi ≤ hi') : RowO w lo' hi' e size v n xs :=
  ⟨own_base h.1 h1, fun g hg => Nat.lt_of_lt_of_le (h.2 g hg) h2⟩
theorem RowO.top (h : w.ownsRow lo e size v n xs) : RowO w lo w.heap.size e size v n xs := ⟨h, fun _ hg => (own_lt h hg).2⟩
theorem RowO.low (h : RowO w lo hi e size v n xs) : RowO w lo w.heap.size e size v n xs := RowO.top h.1
theorem RowO.but (h : RowO w lo hi e size v n xs) (k : But lo' hi' w w') (ho : hi ≤ lo' ∨ hi' ≤ lo) : RowO w' lo hi e size v n xs := by
  refine ⟨own_but h.1 k fun g hg => ?_, h.2⟩
  have h1 := own_lt h.1 hg
  have h2 := h.2 g hg
  omega
theorem RowO.kept (h : RowO w lo hi e size v n xs) (k : Kept w w') : RowO w' lo hi e size v n xs := h.but k (by omega)
/-- Rows of unlike elements lie in unlike blocks. -/
theorem ap_types (h : RowO w lo hi e size v n xs) (h' : RowO w lo' hi' e' size' v' n' xs') (ne : e ≠ e') : Ap v v' := by
  intro g hg hg'
  rcases h.1.2 with ⟨rfl, _⟩ | ⟨a, cap, cur, rfl, _, ha, _⟩
  · simp [Value.ownBlock] at hg
  · rcases h'.1.2 with ⟨rfl, _⟩ | ⟨a', cap', cur', rfl, _, ha', _⟩
    · simp [Value.ownBlock] at hg'
    · simp [Value.ownBlock] at hg hg'
      subst hg hg'
      rw [ha] at ha'
      simp at ha'
      exact ne ha'.2
theorem ap_low (h : RowO w lo hi e size v n xs) (h' : RowO w lo' hi' e' size' v' n' xs') (hl : hi ≤ lo' ∨ hi' ≤ lo) : Ap v v' := by
  intro g hg hg'
  have h1 := own_lt h.1 hg
  have h2 := h.2 g hg
  have h3 := own_lt h'.1 hg'
  have h4 := h'.2 g hg'
  omega
theorem Ap.symm {a b : Value} (h : Ap a b) : Ap b a := fun g hg hg' => h g hg' hg
/-- What has changed is one row's own block alone: from blo to below bhi. -/
def blo (v : Value) : Nat := v.ownBlock.getD 0
def bhi (v : Value) : Nat := match v.ownBlock with
  | some g => g + 1
  | none => 0
theorem RowO.apart (h : RowO w lo hi e size v n xs) (k : But (blo v') (bhi v') w w') (ha : Ap v v') : RowO w' lo hi e size v n xs := by
  refine ⟨own_but h.1 k fun g hg => ?_, h.2⟩
  have := ha g hg
  unfold blo bhi
  cases hv : v'.ownBlock with
  | none => simp
  | some k =>
    rw [hv] at this
    simp at this ⊢
    omega
theorem But.inner {a b : World} (k : But (blo v) (bhi v) a b) (h : RowO w lo hi e size v n xs) : But lo hi a b := by
  have hk := k
  unfold blo bhi at k
  cases hv : v.ownBlock with
  | none => rw [hv] at k; exact But.of k
  | some g =>
    rw [hv] at k
    have h1 := own_lt h.1 hv
    have h2 := h.2 g hv
    exact k.mono h1.1 h2
theorem but_of_grown {a b : World} (g : a.grownBy b v.ownBlock) : But (blo v) (bhi v) a b := by
  refine (But.refl _ _ a).grown g fun k hk => .inr ?_
  unfold blo bhi
  rw [hk]
  simp
theorem RowO.grown (h : RowO w lo hi e size v n xs) (k : w.grownBy w' v'.ownBlock) (ha : Ap v v') : RowO w' lo hi e size v n xs := h.apart (but_of_grown k) ha
end

theorem PartsO.kept {w w' : World} {lo hi : Nat} {v : Value} {ps : List PD} (h : PartsO w lo hi v ps) (k : Kept w w') : PartsO w' lo hi v ps := RowO.kept h k
theorem PartsO.at {w : World} {lo hi : Nat} {v : Value} {ps : List PD} (h : PartsO w lo hi v ps) : PartsAt w v ps := own_row h.1
theorem EntsO.at {w : World} {lo hi : Nat} {v : Value} {zs : List PE} (h : EntsO w lo hi v zs) : EntsAt w v zs :=
  ⟨own_row h.row.1, fun z hz => by obtain ⟨i, hi⟩ := List.mem_iff_getElem?.1 hz; exact (h.parts i z hi).at⟩
theorem WO.at {w : World} {lo hi : Nat} {v : Value} {D : WD} (h : WO w lo hi v D) : WAt w v D := by
  obtain ⟨ev, zs, e, h1, h2⟩ := h
  exact ⟨ev, zs, e, h1.at, h2⟩
theorem EntsO.but {w w' : World} {lo hi lo' hi' : Nat} {v : Value} {zs : List PE} (h : EntsO w lo hi v zs) (k : But lo' hi' w w') (ho : hi ≤ lo' ∨ hi' ≤ lo) : EntsO w' lo hi v zs :=
  ⟨h.row.but k ho, fun i z hz => (h.parts i z hz).but k ho, h.each⟩
theorem EntsO.kept {w w' : World} {lo hi : Nat} {v : Value} {zs : List PE} (h : EntsO w lo hi v zs) (k : Kept w w') : EntsO w' lo hi v zs := h.but k (by omega)
theorem EntsO.mono {w : World} {lo hi lo' hi' : Nat} {v : Value} {zs : List PE} (h : EntsO w lo hi v zs) (h1 : lo' ≤ lo) (h2 : hi ≤ hi') : EntsO w lo' hi' v zs :=
  ⟨h.row.mono h1 h2, fun i z hz => (h.parts i z hz).mono h1 h2, h.each⟩
theorem EntsO.low {w : World} {lo hi : Nat} {v : Value} {zs : List PE} (h : EntsO w lo hi v zs) : EntsO w lo w.heap.size v zs :=
  ⟨h.row.low, fun i z hz => (h.parts i z hz).low, h.each⟩
theorem WO.but {w w' : World} {lo hi lo' hi' : Nat} {v : Value} {D : WD} (h : WO w lo hi v D) (k : But lo' hi' w w') (ho : hi ≤ lo' ∨ hi' ≤ lo) : WO w' lo hi v D := by
  obtain ⟨ev, zs, e, h1, h2⟩ := h
  exact ⟨ev, zs, e, h1.but k ho, h2⟩
theorem WO.kept {w w' : World} {lo hi : Nat} {v : Value} {D : WD} (h : WO w lo hi v D) (k : Kept w w') : WO w' lo hi v D := h.but k (by omega)
theorem WO.low {w : World} {lo hi : Nat} {v : Value} {D : WD} (h : WO w lo hi v D) : WO w lo w.heap.size v D := by
  obtain ⟨ev, zs, e, h1, h2⟩ := h
  exact ⟨ev, zs, e, h1.low, h2⟩
theorem WO.mono {w : World} {lo hi lo' hi' : Nat} {v : Value} {D : WD} (h : WO w lo hi v D) (h1 : lo' ≤ lo) (h2 : hi ≤ hi') : WO w lo' hi' v D := by
  obtain ⟨ev, zs, e, h3, h4⟩ := h
  exact ⟨ev, zs, e, h3.mono h1 h2, h4⟩

/-- A cell of a row's own set anew. -/
theorem RowO.set {w : World} {lo hi : Nat} {e : TypeId} {size : Nat} {n g cap : Nat} {xs : List Value} (h : RowO w lo hi e size (.slice (some ⟨g, 0, none⟩) n cap) n xs) (j : Nat) (u : Value) :
    RowO (w.setCell ⟨g, j, none⟩ u) lo hi e size (.slice (some ⟨g, 0, none⟩) n cap) n (xs.set j u) := ⟨own_set h.1 j u, h.2⟩
theorem but_set (w : World) (g n cap j : Nat) (u : Value) : But (blo (.slice (some ⟨g, 0, none⟩) n cap)) (bhi (.slice (some ⟨g, 0, none⟩) n cap)) w (w.setCell ⟨g, j, none⟩ u) :=
  (But.refl _ _ w).setCell (by simp [blo, Value.ownBlock]) (by simp [bhi, Value.ownBlock]) u

theorem PartsO.set {w : World} {lo hi g cap n : Nat} {ps : List PD} (h : PartsO w lo hi (.slice (some ⟨g, 0, none⟩) n cap) ps) (hn : n = ps.length) {i : Nat} {p q : PD} (hp : ps[i]? = some p) (j : Nat) (hj : j < 3) (u : Value) (hu : (pc p).set j u = pc q) :
    PartsO (w.setCell ⟨g, i * 3 + j, none⟩ u) lo hi (.slice (some ⟨g, 0, none⟩) n cap) (ps.set i q) := by
  subst hn
  have := RowO.set h (i * 3 + j) u
  unfold PartsO
  rw [List.length_set]
  rw [Nat.mul_comm i 3] at this ⊢
  rw [partCells, flat_set 3 pc pc_len ps i j p q u hp hj hu] at this
  exact this
theorem EntsO.ap {w : World} {lo hi : Nat} {v : Value} {zs : List PE} (h : EntsO w lo hi v zs) {i : Nat} {z : PE} (hz : zs[i]? = some z) : Ap v z.2.1 := ap_types h.row (h.parts i z hz) (by decide)
theorem get_set {α : Type} {l : List α} {i j : Nat} {a b : α} (h : (l.set i a)[j]? = some b) : (j = i ∧ b = a) ∨ (j ≠ i ∧ l[j]? = some b) := by
  rw [List.getElem?_set] at h
  by_cases e : i = j
  · subst e
    rw [if_pos rfl] at h
    by_cases hl : i < l.length
    · rw [if_pos hl] at h; cases h; exact .inl ⟨rfl, rfl⟩
    · rw [if_neg hl] at h; cases h
  · rw [if_neg e] at h
    exact .inr ⟨fun x => e x.symm, h⟩
theorem PartsO.cells {w : World} {lo hi g cap n : Nat} {ps : List PD} (h : PartsO w lo hi (.slice (some ⟨g, 0, none⟩) n cap) ps) {i : Nat} {p : PD} (hp : ps[i]? = some p) :
    w.cell? ⟨g, i * 3, none⟩ = some (.string p.1) ∧ w.cell? ⟨g, i * 3 + 1, none⟩ = some (.int .i64 p.2.1) ∧ w.cell? ⟨g, i * 3 + 2, none⟩ = some (.int .i64 p.2.2) ∧ ∀ o, w.frozen? ⟨g, o, none⟩ = false := by
  obtain ⟨b, o, cap', e, c0, c1, c2⟩ := parts_get h.at hp
  rcases h.1.2 with ⟨hv, _⟩ | ⟨g', cap1, cur, hv, hbs, hgg, _⟩
  · cases hv
  · cases hv
    cases e
    refine ⟨by simpa using c0, by simpa using c1, by simpa using c2, fun o => by simp [World.frozen?, hgg]⟩
/-- A part of a row's own set anew, field by field. -/
theorem PartsO.store {w : World} {lo hi g cap n : Nat} {ps : List PD} (h : PartsO w lo hi (.slice (some ⟨g, 0, none⟩) n cap) ps) (hn : n = ps.length) {i : Nat} {p : PD} (hp : ps[i]? = some p) (q : PD) :
    (w.setCell ⟨g, i * 3, none⟩ (.string q.1)).cell? ⟨g, i * 3 + 1, none⟩ = some (.int .i64 p.2.1) ∧
    ((w.setCell ⟨g, i * 3, none⟩ (.string q.1)).setCell ⟨g, i * 3 + 1, none⟩ (.int .i64 q.2.1)).cell? ⟨g, i * 3 + 2, none⟩ = some (.int .i64 p.2.2) ∧
    PartsO (((w.setCell ⟨g, i * 3, none⟩ (.string q.1)).setCell ⟨g, i * 3 + 1, none⟩ (.int .i64 q.2.1)).setCell ⟨g, i * 3 + 2, none⟩ (.int .i64 q.2.2)) lo hi (.slice (some ⟨g, 0, none⟩) n cap) (ps.set i q) := by
  have hi' : i < ps.length := (List.getElem?_eq_some_iff.1 hp).1
  have h1 := h.set hn hp 0 (by omega) (.string q.1) (q := (q.1, p.2)) rfl
  have g1 : (ps.set i (q.1, p.2))[i]? = some (q.1, p.2) := by simp [hi']
  have h2 := h1.set (by simpa using hn) g1 1 (by omega) (.int .i64 q.2.1) (q := (q.1, q.2.1, p.2.2)) rfl
  have g2 : ((ps.set i (q.1, p.2)).set i (q.1, q.2.1, p.2.2))[i]? = some (q.1, q.2.1, p.2.2) := by simp [hi']
  have h3 := h2.set (by simpa using hn) g2 2 (by omega) (.int .i64 q.2.2) (q := q) rfl
  refine ⟨(h1.cells g1).2.1, (h2.cells g2).2.2.1, by simpa using h3⟩
theorem EntsO.cells {w : World} {lo hi g cap n : Nat} {zs : List PE} (h : EntsO w lo hi (.slice (some ⟨g, 0, none⟩) n cap) zs) {i : Nat} {z : PE} (hz : zs[i]? = some z) :
    w.cell? ⟨g, i * 2, none⟩ = some (.int .i64 z.1) ∧ w.cell? ⟨g, i * 2 + 1, none⟩ = some z.2.1 ∧ ∀ o, w.frozen? ⟨g, o, none⟩ = false := by
  obtain ⟨b, o, cap', ao, n', cap'', e, ez, c0, c1, _⟩ := ents_get h.at hz
  rcases h.row.1.2 with ⟨hv, _⟩ | ⟨g', cap1, cur, hv, hbs, hgg, _⟩
  · cases hv
  · cases hv
    cases e
    refine ⟨by simpa using c0, by rw [ez]; simpa using c1, fun o => by simp [World.frozen?, hgg]⟩
/-- An entity's Id set anew. -/
theorem EntsO.setId {w : World} {lo hi g cap n : Nat} {zs : List PE} (h : EntsO w lo hi (.slice (some ⟨g, 0, none⟩) n cap) zs) (hn : n = zs.length) {i : Nat} {z : PE} (hz : zs[i]? = some z) (id : Int) :
    EntsO (w.setCell ⟨g, i * 2, none⟩ (.int .i64 id)) lo hi (.slice (some ⟨g, 0, none⟩) n cap) (zs.set i (id, z.2)) := by
  subst hn
  refine ⟨?_, fun j y hy => ?_, fun j k y y' hjk hy hy' => ?_⟩
  · have := RowO.set h.row (i * 2 + 0) (.int .i64 id)
    rw [List.length_set]
    rw [Nat.mul_comm i 2] at this ⊢
    rw [entCells, flat_set 2 ec ec_len zs i 0 z (id, z.2) _ hz (by omega) rfl] at this
    exact this
  · rcases get_set hy with ⟨rfl, rfl⟩ | ⟨_, hy⟩
    · exact (h.parts _ z hz).apart (but_set w g _ cap _ _) (h.ap hz).symm
    · exact (h.parts j y hy).apart (but_set w g _ cap _ _) (h.ap hy).symm
  · rcases get_set hy with ⟨rfl, rfl⟩ | ⟨_, gy⟩ <;> rcases get_set hy' with ⟨rfl, rfl⟩ | ⟨_, gy'⟩
    · exact absurd rfl hjk
    · exact h.each _ _ z y' hjk hz gy'
    · exact h.each _ _ y z hjk gy hz
    · exact h.each _ _ y y' hjk gy gy'
/-- An entity's parts set anew: another row of its own. -/
theorem EntsO.setParts {w : World} {lo hi g cap n : Nat} {zs : List PE} (h : EntsO w lo hi (.slice (some ⟨g, 0, none⟩) n cap) zs) (hn : n = zs.length) {i : Nat} {z : PE} (hz : zs[i]? = some z) {pv : Value} {ps : List PD}
    (hp : PartsO w lo hi pv ps) (ha : ∀ (j : Nat) y, j ≠ i → zs[j]? = some y → Ap y.2.1 pv) :
    EntsO (w.setCell ⟨g, i * 2 + 1, none⟩ pv) lo hi (.slice (some ⟨g, 0, none⟩) n cap) (zs.set i (z.1, pv, ps)) := by
  subst hn
  have hap : Ap (.slice (some ⟨g, 0, none⟩) zs.length cap) pv := ap_types h.row hp (by decide)
  refine ⟨?_, fun j y hy => ?_, fun j k y y' hjk hy hy' => ?_⟩
  · have := RowO.set h.row (i * 2 + 1) pv
    rw [List.length_set]
    rw [Nat.mul_comm i 2] at this ⊢
    rw [entCells, flat_set 2 ec ec_len zs i 1 z (z.1, pv, ps) _ hz (by omega) rfl] at this
    exact this
  · rcases get_set hy with ⟨rfl, rfl⟩ | ⟨_, hy⟩
    · exact hp.apart (but_set w g _ cap _ _) hap.symm
    · exact (h.parts j y hy).apart (but_set w g _ cap _ _) (h.ap hy).symm
  · rcases get_set hy with ⟨rfl, rfl⟩ | ⟨hj, gy⟩ <;> rcases get_set hy' with ⟨rfl, rfl⟩ | ⟨hk, gy'⟩
    · exact absurd rfl hjk
    · exact (ha k y' hk gy').symm
    · exact ha j y hj gy
    · exact h.each _ _ y y' hjk gy gy'
/-- An entity set anew. -/
theorem EntsO.store {w : World} {lo hi g cap n : Nat} {zs : List PE} (h : EntsO w lo hi (.slice (some ⟨g, 0, none⟩) n cap) zs) (hn : n = zs.length) {i : Nat} {z : PE} (hz : zs[i]? = some z) (id : Int) {pv : Value} {ps : List PD}
    (hp : PartsO w lo hi pv ps) (ha : ∀ (j : Nat) y, j ≠ i → zs[j]? = some y → Ap y.2.1 pv) :
    (w.setCell ⟨g, i * 2, none⟩ (.int .i64 id)).cell? ⟨g, i * 2 + 1, none⟩ = some z.2.1 ∧
    EntsO ((w.setCell ⟨g, i * 2, none⟩ (.int .i64 id)).setCell ⟨g, i * 2 + 1, none⟩ pv) lo hi (.slice (some ⟨g, 0, none⟩) n cap) (zs.set i (id, pv, ps)) := by
  have hi' : i < zs.length := (List.getElem?_eq_some_iff.1 hz).1
  have h1 := h.setId hn hz id
  have g1 : (zs.set i (id, z.2))[i]? = some (id, z.2) := by simp [hi']
  have hp' : PartsO (w.setCell ⟨g, i * 2, none⟩ (.int .i64 id)) lo hi pv ps := hp.apart (but_set w g n cap _ _) (ap_types h.row hp (by decide)).symm
  have h2 := h1.setParts (by simpa using hn) g1 hp' (fun j y hj hy => by
    rcases get_set hy with ⟨rfl, _⟩ | ⟨_, gy⟩
    · exact absurd rfl hj
    · exact ha j y hj gy)
  exact ⟨(h1.cells g1).2.1, by simpa using h2⟩
/-- An entity's parts changed in their own row. -/
theorem EntsO.inner {w w' : World} {lo hi : Nat} {v : Value} {zs : List PE} (h : EntsO w lo hi v zs) {i : Nat} {z : PE} (hz : zs[i]? = some z) {ps : List PD} (k : But (blo z.2.1) (bhi z.2.1) w w') (hp : PartsO w' lo hi z.2.1 ps) :
    EntsO w' lo hi v (zs.set i (z.1, z.2.1, ps)) := by
  refine ⟨?_, fun j y hy => ?_, fun j k y y' hjk hy hy' => ?_⟩
  · have := h.row.apart k (h.ap hz)
    have e : entCells (zs.set i (z.1, z.2.1, ps)) = entCells zs := by
      have h0 := flat_set 2 ec ec_len zs i 0 z (z.1, z.2.1, ps) (.int .i64 z.1) hz (by omega) rfl
      rw [entCells, ← h0, entCells]
      apply List.ext_getElem?
      intro m
      rw [List.getElem?_set]
      by_cases hm : 2 * i + 0 = m
      · subst hm
        have := flat_get 2 ec ec_len zs i 0 z hz (by omega)
        rw [if_pos rfl, this]
        split
        · rfl
        · rename_i hlt
          rw [List.getElem?_eq_none (by omega)] at this
          cases this
      · rw [if_neg hm]
    rw [e, List.length_set]
    exact this
  · rcases get_set hy with ⟨rfl, rfl⟩ | ⟨hj, hy⟩
    · exact hp
    · exact (h.parts j y hy).apart k (h.each _ _ _ _ hj hy hz)
  · rcases get_set hy with ⟨rfl, rfl⟩ | ⟨_, gy⟩ <;> rcases get_set hy' with ⟨rfl, rfl⟩ | ⟨_, gy'⟩
    · exact absurd rfl hjk
    · exact h.each _ _ z y' hjk hz gy'
    · exact h.each _ _ y z hjk gy hz
    · exact h.each _ _ y y' hjk gy gy'
end Go.Proofs.Ytajelalimiobeaa
