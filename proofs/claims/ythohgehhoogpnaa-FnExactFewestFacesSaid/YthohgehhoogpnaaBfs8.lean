/-
  How far faces are from one another: the search level by level, and the way back. Free of the program.
-/
import Derived.Test.YthohgehhoogpnaaBesI8
namespace Go.Proofs.Ythohgehhoogpnaa
open Go.ChangeShapes Go.WideShapes Go.ChangeAt Go.RowKit

set_option linter.unusedVariables false
/-- Two faces lie beside one another. -/
def Adj (g : GroundD) (x y : Nat) : Prop := y < g.2.length ∧ y ≠ x ∧ HasDoor (g.2.getD x []) (g.2.getD y [])
theorem door_symm {f o : List NumD} (h : HasDoor f o) : HasDoor o f := by
  obtain ⟨i, p, q, h1, h2, e, h3, h4⟩ := h
  exact ⟨e, q, p, h3, h4, i, h1, h2⟩
theorem Adj.symm {g : GroundD} {x y : Nat} (hx : x < g.2.length) (h : Adj g x y) : Adj g y x := ⟨hx, h.2.1.symm, door_symm h.2.2⟩
theorem besM_mem {g : GroundD} {k : Nat} (m : Nat) (z : Int) : z ∈ besM g k m ↔ ∃ y : Nat, z = (y : Int) ∧ y < m ∧ y ≠ k ∧ HasDoor (g.2.getD k []) (g.2.getD y []) := by
  induction m with
  | zero => simp [besM]
  | succ m ih =>
    by_cases h : m ≠ k ∧ HasDoor (g.2.getD k []) (g.2.getD m [])
    · rw [besM_yes h, List.mem_append, ih]
      constructor
      · rintro (⟨y, rfl, h1, h2⟩ | h1)
        · exact ⟨y, rfl, by omega, h2⟩
        · exact ⟨m, by simpa using h1, by omega, h⟩
      · rintro ⟨y, rfl, h1, h2⟩
        by_cases e : y = m
        · subst e; exact .inr (by simp)
        · exact .inl ⟨y, rfl, by omega, h2⟩
    · rw [besM_no h, ih]
      constructor
      · rintro ⟨y, rfl, h1, h2⟩
        exact ⟨y, rfl, by omega, h2⟩
      · rintro ⟨y, rfl, h1, h2⟩
        by_cases e : y = m
        · subst e; exact absurd h2 h
        · exact ⟨y, rfl, by omega, h2⟩
/-- One of the faces beside. -/
theorem bes_get {g : GroundD} {k i : Nat} {z : Int} (h : (besM g k g.2.length)[i]? = some z) : ∃ y : Nat, z = (y : Int) ∧ Adj g k y := by
  obtain ⟨y, e, h1, h2⟩ := (besM_mem _ z).1 (List.mem_of_getElem? h)
  exact ⟨y, e, h1, h2⟩
theorem bes_has {g : GroundD} {k y : Nat} (h : Adj g k y) : ∃ i : Nat, (besM g k g.2.length)[i]? = some (y : Int) := List.mem_iff_getElem?.1 ((besM_mem _ _).2 ⟨y, rfl, h⟩)

theorem nodup_len : ∀ (n : Nat) (r : List Nat), r.Nodup → (∀ x ∈ r, x < n) → r.length ≤ n
  | 0, r, _, h => by
    cases r with
    | nil => simp
    | cons a r => exact absurd (h a (by simp)) (by omega)
  | n + 1, r, hr, h => by
    by_cases hm : n ∈ r
    · have h1 := nodup_len n (r.erase n) (hr.erase n) (fun x hx => by
        have := (hr.mem_erase_iff).1 hx
        have := h x this.2
        omega)
      rw [List.length_erase_of_mem hm] at h1
      omega
    · have h1 := nodup_len n r hr (fun x hx => by
        have := h x hx
        have : x ≠ n := fun e => hm (e ▸ hx)
        omega)
      omega

/-- How far each face is from one: what a table of it must keep. -/
structure Fin8 (g : GroundD) (to : Nat) (far : Nat → Option Nat) : Prop where
  a : far to = some 0
  z : ∀ x, x < g.2.length → far x = some 0 → x = to
  b : ∀ x, x < g.2.length → ∀ d, far x = some (d + 1) → ∃ y, Adj g x y ∧ far y = some d
  c : ∀ x, x < g.2.length → ∀ d, far x = some d → ∀ y, Adj g x y → ∃ e, far y = some e ∧ e ≤ d + 1
theorem fin_le {g : GroundD} {to : Nat} {far far' : Nat → Option Nat} (h : Fin8 g to far) (h' : Fin8 g to far') : ∀ (d x : Nat), x < g.2.length → far x = some d → ∃ e, far' x = some e ∧ e ≤ d
  | 0, x, hx, hf => ⟨0, by rw [h.z x hx hf]; exact h'.a, Nat.le_refl _⟩
  | d + 1, x, hx, hf => by
    obtain ⟨y, hy, hfy⟩ := h.b x hx d hf
    obtain ⟨e, he, hle⟩ := fin_le h h' d y hy.1 hfy
    obtain ⟨e', he', hle'⟩ := h'.c y hy.1 e he x (hy.symm hx)
    exact ⟨e', he', by omega⟩
theorem fin_one {g : GroundD} {to : Nat} {far far' : Nat → Option Nat} (h : Fin8 g to far) (h' : Fin8 g to far') {x : Nat} (hx : x < g.2.length) : far x = far' x := by
  cases hf : far x with
  | some d =>
    obtain ⟨e, he, hle⟩ := fin_le h h' d x hx hf
    obtain ⟨d', hd, hle'⟩ := fin_le h' h e x hx he
    rw [hf] at hd
    cases hd
    rw [he, show e = d by omega]
  | none =>
    cases hf' : far' x with
    | none => rfl
    | some d =>
      obtain ⟨e, he, _⟩ := fin_le h' h d x hx hf'
      rw [hf] at he
      cases he

def upd (far : Nat → Option Nat) (y d : Nat) : Nat → Option Nat := fun x => if x = y then some d else far x
theorem upd_same (far : Nat → Option Nat) (y d : Nat) : upd far y d y = some d := if_pos rfl
theorem upd_other {far : Nat → Option Nat} {y d x : Nat} (h : x ≠ y) : upd far y d x = far x := if_neg h
/-- The search on its way: r are the faces that were reached, the first k of them are done. -/
structure Bfs (g : GroundD) (to : Nat) (far : Nat → Option Nat) (r : List Nat) (k : Nat) : Prop where
  nod : r.Nodup
  lt : ∀ x ∈ r, x < g.2.length
  mem : ∀ x, (∃ d, far x = some d) ↔ x ∈ r
  a : far to = some 0
  z : ∀ x, far x = some 0 → x = to
  b : ∀ x, x < g.2.length → ∀ d, far x = some (d + 1) → ∃ y, Adj g x y ∧ far y = some d
  idx : ∀ (j x d : Nat), r[j]? = some x → far x = some d → d ≤ j
  srt : ∀ (i j x y d e : Nat), i ≤ j → r[i]? = some x → r[j]? = some y → far x = some d → far y = some e → d ≤ e
  frt : ∀ (j x y d e : Nat), r[k]? = some x → r[j]? = some y → far x = some d → far y = some e → e ≤ d + 1
  c : ∀ (i x d : Nat), i < k → r[i]? = some x → far x = some d → ∀ y, Adj g x y → ∃ e, far y = some e ∧ e ≤ d + 1
theorem Bfs.len {g : GroundD} {to : Nat} {far : Nat → Option Nat} {r : List Nat} {k : Nat} (h : Bfs g to far r k) : r.length ≤ g.2.length := nodup_len _ _ h.nod h.lt
theorem bfs_start {g : GroundD} {to : Nat} (ht : to < g.2.length) : Bfs g to (upd (fun _ => none) to 0) [to] 0 where
  nod := by simp
  lt := fun x hx => by simp at hx; omega
  mem := fun x => by
    unfold upd
    by_cases h : x = to
    · simp [h]
    · simp [h]
  a := upd_same _ _ _
  z := fun x hx => by
    by_cases h : x = to
    · exact h
    · rw [upd_other h] at hx; cases hx
  b := fun x _ d hx => by
    by_cases h : x = to
    · rw [h, upd_same] at hx; cases hx
    · rw [upd_other h] at hx; cases hx
  idx := fun j x d _ hd => by
    by_cases h : x = to
    · rw [h, upd_same] at hd; cases hd; omega
    · rw [upd_other h] at hd; cases hd
  srt := fun i j x y d e _ _ _ hd he => by
    by_cases h : x = to
    · rw [h, upd_same] at hd; cases hd; omega
    · rw [upd_other h] at hd; cases hd
  frt := fun j x y d e _ _ _ he => by
    by_cases h : y = to
    · rw [h, upd_same] at he; cases he; omega
    · rw [upd_other h] at he; cases he
  c := fun i x d hi => by omega
/-- A new face is reached from the one that is being done. -/
theorem Bfs.add {g : GroundD} {to : Nat} {far : Nat → Option Nat} {r : List Nat} {k x d y : Nat} (h : Bfs g to far r k) (hx : r[k]? = some x) (hd : far x = some d) (hy : Adj g x y) (hn : far y = none) : Bfs g to (upd far y (d + 1)) (r ++ [y]) k := by
  have hyr : y ∉ r := fun hm => by
    obtain ⟨e, he⟩ := (h.mem y).2 hm
    rw [hn] at he
    cases he
  have hxl := h.lt x (List.mem_of_getElem? hx)
  have hkl : k < r.length := (List.getElem?_eq_some_iff.1 hx).1
  have hne : ∀ {u e}, far u = some e → u ≠ y := fun hu e => by rw [e, hn] at hu; cases hu
  have old : ∀ {u e}, far u = some e → upd far y (d + 1) u = some e := fun hu => by rw [upd_other (hne hu)]; exact hu
  have val : ∀ {u e}, upd far y (d + 1) u = some e → far u = some e ∨ (u = y ∧ e = d + 1) := fun {u e} hu => by
    by_cases hu' : u = y
    · rw [hu', upd_same] at hu; cases hu; exact .inr ⟨hu', rfl⟩
    · rw [upd_other hu'] at hu; exact .inl hu
  have get : ∀ {j : Nat} {u : Nat}, (r ++ [y])[j]? = some u → r[j]? = some u ∨ (j = r.length ∧ u = y) := fun {j u} hj => by
    by_cases hl : j < r.length
    · rw [List.getElem?_append_left hl] at hj; exact .inl hj
    · rw [List.getElem?_append_right (by omega)] at hj
      have := (List.getElem?_eq_some_iff.1 hj).1
      simp at this
      have e0 : j - r.length = 0 := by omega
      rw [e0] at hj
      cases hj
      exact .inr ⟨by omega, rfl⟩
  have inr : ∀ {j : Nat} {u e : Nat}, r[j]? = some u → upd far y (d + 1) u = some e → far u = some e := fun hj hu => by
    rcases val hu with hu | ⟨rfl, _⟩
    · exact hu
    · exact absurd (List.mem_of_getElem? hj) hyr
  refine ⟨?_, ?_, ?_, old h.a, ?_, ?_, ?_, ?_, ?_, ?_⟩
  · rw [List.nodup_append]
    exact ⟨h.nod, by simp, fun a ha b hb e => by simp at hb; subst hb; subst e; exact hyr ha⟩
  · intro u hu
    rcases List.mem_append.1 hu with hu | hu
    · exact h.lt u hu
    · simp at hu; subst hu; exact hy.1
  · intro u
    rw [List.mem_append, ← h.mem u]
    constructor
    · rintro ⟨e, he⟩
      rcases val he with he | ⟨rfl, _⟩
      · exact .inl ⟨e, he⟩
      · exact .inr (by simp)
    · rintro (⟨e, he⟩ | hu)
      · exact ⟨e, old he⟩
      · simp at hu; subst hu; exact ⟨_, upd_same _ _ _⟩
  · intro u hu
    rcases val hu with hu | ⟨_, e⟩
    · exact h.z u hu
    · omega
  · intro u hul e hu
    rcases val hu with hu | ⟨rfl, e'⟩
    · obtain ⟨v, hv, hfv⟩ := h.b u hul e hu
      exact ⟨v, hv, old hfv⟩
    · have : e = d := by omega
      subst this
      exact ⟨x, hy.symm hxl, old hd⟩
  · intro j u e hj hu
    rcases get hj with hj | ⟨rfl, rfl⟩
    · exact h.idx j u e hj (inr hj hu)
    · rw [upd_same] at hu
      cases hu
      have := h.idx k x d hx hd
      omega
  · intro i j u v e e' hij hi hj hu hv
    rcases get hj with hj1 | ⟨rfl, rfl⟩
    · rcases get hi with hi1 | ⟨rfl, rfl⟩
      · exact h.srt i j u v e e' hij hi1 hj1 (inr hi1 hu) (inr hj1 hv)
      · have := (List.getElem?_eq_some_iff.1 hj1).1
        omega
    · rw [upd_same] at hv
      cases hv
      rcases get hi with hi | ⟨rfl, rfl⟩
      · exact h.frt i x u d e hx hi hd (inr hi hu)
      · rw [upd_same] at hu
        cases hu
        omega
  · intro j u v e e' hu hv hfu hfv
    have hu' : u = x := by
      rw [List.getElem?_append_left hkl, hx] at hu
      cases hu
      rfl
    subst hu'
    have he : e = d := by
      have := old hd
      rw [hfu] at this
      cases this
      rfl
    subst he
    rcases get hv with hv | ⟨rfl, rfl⟩
    · exact h.frt j u v e e' hx hv hd (inr hv hfv)
    · rw [upd_same] at hfv
      cases hfv
      omega
  · intro i u e hi hu hfu v hv
    have hu' : r[i]? = some u := by rw [List.getElem?_append_left (by omega)] at hu; exact hu
    obtain ⟨e', he', hle⟩ := h.c i u e hi hu' (inr hu' hfu) v hv
    exact ⟨e', old he', hle⟩
/-- One face is done. -/
theorem Bfs.next {g : GroundD} {to : Nat} {far : Nat → Option Nat} {r : List Nat} {k x d : Nat} (h : Bfs g to far r k) (hx : r[k]? = some x) (hd : far x = some d) (hc : ∀ y, Adj g x y → ∃ e, far y = some e) : Bfs g to far r (k + 1) where
  nod := h.nod
  lt := h.lt
  mem := h.mem
  a := h.a
  z := h.z
  b := h.b
  idx := h.idx
  srt := h.srt
  frt := fun j u v e e' hu hv hfu hfv => by
    have h1 := h.frt j x v d e' hx hv hd hfv
    have h2 := h.srt k (k + 1) x u d e (by omega) hx hu hd hfu
    omega
  c := fun i u e hi hu hfu v hv => by
    rcases Nat.lt_succ_iff_lt_or_eq.1 hi with hi | rfl
    · exact h.c i u e hi hu hfu v hv
    · rw [hx] at hu
      cases hu
      rw [hd] at hfu
      cases hfu
      obtain ⟨e', he'⟩ := hc v hv
      obtain ⟨j, hj⟩ := List.mem_iff_getElem?.1 ((h.mem v).1 ⟨e', he'⟩)
      exact ⟨e', he', h.frt j x v d e' hx hj hd he'⟩
theorem Bfs.done {g : GroundD} {to : Nat} {far : Nat → Option Nat} {r : List Nat} (h : Bfs g to far r r.length) : Fin8 g to far where
  a := h.a
  z := fun x _ => h.z x
  b := h.b
  c := fun x hx d hd y hy => by
    obtain ⟨i, hi⟩ := List.mem_iff_getElem?.1 ((h.mem x).1 ⟨d, hd⟩)
    exact h.c i x d (List.getElem?_eq_some_iff.1 hi).1 hi hd y hy
theorem Bfs.done' {g : GroundD} {to : Nat} {far : Nat → Option Nat} {r : List Nat} {k : Nat} (h : Bfs g to far r k) (hk : r.length ≤ k) : Fin8 g to far where
  a := h.a
  z := fun x _ => h.z x
  b := h.b
  c := fun x hx d hd y hy => by
    obtain ⟨i, hi⟩ := List.mem_iff_getElem?.1 ((h.mem x).1 ⟨d, hd⟩)
    exact h.c i x d (Nat.lt_of_lt_of_le (List.getElem?_eq_some_iff.1 hi).1 hk) hi hd y hy
theorem Bfs.get {g : GroundD} {to : Nat} {far : Nat → Option Nat} {r : List Nat} {k x : Nat} (h : Bfs g to far r k) (hx : r[k]? = some x) : ∃ d, far x = some d ∧ d ≤ k ∧ x < g.2.length := by
  have hm := List.mem_of_getElem? hx
  obtain ⟨d, hd⟩ := (h.mem x).2 hm
  exact ⟨d, hd, h.idx k x d hx hd, h.lt x hm⟩
theorem Bfs.small {g : GroundD} {to : Nat} {far : Nat → Option Nat} {r : List Nat} {k x d : Nat} (h : Bfs g to far r k) (hd : far x = some d) : d < g.2.length ∧ x < g.2.length := by
  have hm := (h.mem x).1 ⟨d, hd⟩
  obtain ⟨j, hj⟩ := List.mem_iff_getElem?.1 hm
  have h1 := h.idx j x d hj hd
  have h2 := (List.getElem?_eq_some_iff.1 hj).1
  have h3 := h.len
  exact ⟨by omega, h.lt x hm⟩

/-- The table. -/
noncomputable def farT (g : GroundD) (to : Nat) : Nat → Option Nat := Classical.epsilon (Fin8 g to)
theorem farT_is {g : GroundD} {to : Nat} {far : Nat → Option Nat} (h : Fin8 g to far) : Fin8 g to (farT g to) := Classical.epsilon_spec (p := Fin8 g to) ⟨far, h⟩
theorem farT_eq {g : GroundD} {to : Nat} {far : Nat → Option Nat} (h : Fin8 g to far) {x : Nat} (hx : x < g.2.length) : far x = farT g to x := fin_one h (farT_is h) hx
/-- The first face beside that is so far away. -/
noncomputable def nxt (g : GroundD) (to x d : Nat) : Nat := Classical.epsilon fun y : Nat => ∃ i : Nat, (besM g x g.2.length)[i]? = some (y : Int) ∧ farT g to y = some d ∧ ∀ (j z : Nat), j < i → (besM g x g.2.length)[j]? = some (z : Int) → farT g to z ≠ some d
theorem nxt_is {g : GroundD} {to x d i y : Nat} (hi : (besM g x g.2.length)[i]? = some (y : Int)) (hy : farT g to y = some d) (hb : ∀ (j z : Nat), j < i → (besM g x g.2.length)[j]? = some (z : Int) → farT g to z ≠ some d) : y = nxt g to x d := by
  have h := Classical.epsilon_spec (p := fun y : Nat => ∃ i : Nat, (besM g x g.2.length)[i]? = some (y : Int) ∧ farT g to y = some d ∧ ∀ (j z : Nat), j < i → (besM g x g.2.length)[j]? = some (z : Int) → farT g to z ≠ some d) ⟨y, i, hi, hy, hb⟩
  obtain ⟨i', hi', hy', hb'⟩ := h
  rcases Nat.lt_trichotomy i i' with k | k | k
  · exact absurd hy (hb' i y k hi)
  · subst k
    have e9 : (y : Int) = ((nxt g to x d : Nat) : Int) := by
      have := hi.symm.trans hi'
      injection this
    omega
  · exact absurd hy' (hb i' _ k hi')
noncomputable def pathM (g : GroundD) (to : Nat) : Nat → Nat → List NumD
  | 0, x => [(x : Int)]
  | d + 1, x => (x : Int) :: pathM g to d (nxt g to x d)
theorem pathM_len (g : GroundD) (to : Nat) : ∀ d x, (pathM g to d x).length = d + 1
  | 0, _ => rfl
  | d + 1, x => by simp [pathM, pathM_len g to d]
theorem pathM_head (g : GroundD) (to d x : Nat) : ∃ l, pathM g to d x = (x : Int) :: l := by
  cases d with
  | zero => exact ⟨[], rfl⟩
  | succ d => exact ⟨_, rfl⟩

end Go.Proofs.Ythohgehhoogpnaa
