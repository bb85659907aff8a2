/-
  Boxes laid out: free of the program.
-/
import Derived.Test.YtaofilinejanjaaPure18
import Derived.Test.YtaofilinejanjaaPlaced
import Derived.Test.YtaofilinejanjaaShQ18
import Derived.Test.YtaofilinejanjaaRoomP18
namespace Go.Proofs.Ytaofilinejanjaa
open Go.ChangeShapes Go.WideShapes Go.ChangeAt Go.RowKit

set_option maxRecDepth 100000
set_option linter.unusedVariables false

/-- The kids of a box among the first so many, their leasts and grows. -/
def kids (l : List BoxD) (u : Int) : Nat → List Int
  | 0 => []
  | k + 1 => kids l u k ++ (match l[k]? with
    | some d => if d.1 = u then [(k : Int)] else []
    | none => [])
def leasts (l : List BoxD) (u : Int) : Nat → List Int
  | 0 => []
  | k + 1 => leasts l u k ++ (match l[k]? with
    | some d => if d.1 = u then [d.2.2.1] else []
    | none => [])
def grows (l : List BoxD) (u : Int) : Nat → List Int
  | 0 => []
  | k + 1 => grows l u k ++ (match l[k]? with
    | some d => if d.1 = u then [d.2.2.2.1] else []
    | none => [])
theorem kids_no {l : List BoxD} {u : Int} {k : Nat} {d : BoxD} (h : l[k]? = some d) (hu : ¬ d.1 = u) : kids l u (k + 1) = kids l u k ∧ leasts l u (k + 1) = leasts l u k ∧ grows l u (k + 1) = grows l u k := by
  simp [kids, leasts, grows, h, hu]
theorem kids_yes {l : List BoxD} {u : Int} {k : Nat} {d : BoxD} (h : l[k]? = some d) (hu : d.1 = u) : kids l u (k + 1) = kids l u k ++ [(k : Int)] ∧ leasts l u (k + 1) = leasts l u k ++ [d.2.2.1] ∧ grows l u (k + 1) = grows l u k ++ [d.2.2.2.1] := by
  simp [kids, leasts, grows, h, hu]
theorem kids_len (l : List BoxD) (u : Int) : ∀ k, (kids l u k).length ≤ k ∧ (leasts l u k).length = (kids l u k).length ∧ (grows l u k).length = (kids l u k).length
  | 0 => by simp [kids, leasts, grows]
  | k + 1 => by
    have := kids_len l u k
    cases h : l[k]? with
    | none =>
      simp only [kids, leasts, grows, h, List.append_nil]
      omega
    | some d =>
      by_cases hu : d.1 = u
      · rw [(kids_yes h hu).1, (kids_yes h hu).2.1, (kids_yes h hu).2.2]
        simp only [List.length_append, List.length_singleton]
        omega
      · rw [(kids_no h hu).1, (kids_no h hu).2.1, (kids_no h hu).2.2]
        omega
theorem kids_in (l : List BoxD) (u : Int) : ∀ k, ∀ x ∈ kids l u k, 0 ≤ x ∧ x < (k : Int)
  | 0, x, hx => by simp [kids] at hx
  | k + 1, x, hx => by
    have ih := kids_in l u k x
    cases h : l[k]? with
    | none =>
      simp only [kids, h, List.append_nil] at hx
      have := ih hx
      omega
    | some d =>
      by_cases hu : d.1 = u
      · rw [(kids_yes h hu).1] at hx
        simp only [List.mem_append, List.mem_singleton] at hx
        rcases hx with hx | hx
        · have := ih hx
          omega
        · omega
      · rw [(kids_no h hu).1] at hx
        have := ih hx
        omega
theorem kids_sh {l : List BoxD} (hl : BoxesP l) (u : Int) : ∀ k, k ≤ l.length → (∀ x ∈ leasts l u k, 0 ≤ x ∧ x ≤ 10000) ∧ (∀ x ∈ grows l u k, 0 ≤ x ∧ x ≤ 1000)
  | 0, _ => by simp [leasts, grows]
  | k + 1, hk => by
    have ih := kids_sh hl u k (by omega)
    obtain ⟨d, h⟩ : ∃ d, l[k]? = some d := ⟨_, List.getElem?_eq_getElem (by omega)⟩
    have hd := hl.2.2 k (by omega) d h
    by_cases hu : d.1 = u
    · rw [(kids_yes h hu).2.1, (kids_yes h hu).2.2]
      simp only [List.mem_append, List.mem_singleton]
      refine ⟨fun x hx => ?_, fun x hx => ?_⟩
      · rcases hx with hx | rfl
        · exact ih.1 x hx
        · exact hd.2.2.2.1
      · rcases hx with hx | rfl
        · exact ih.2 x hx
        · exact hd.2.2.2.2.1
    · rw [(kids_no h hu).2.1, (kids_no h hu).2.2]
      exact ih
theorem kids_shP {l : List BoxD} (hl : BoxesP l) (u : Int) {k : Nat} (hk : k ≤ l.length) : ShP (leasts l u k) (grows l u k) := by
  have h1 := kids_len l u k
  have h2 := kids_sh hl u k hk
  have h3 := hl.2.1
  exact ⟨by omega, by omega, h2.1, h2.2⟩
def pos0 (n : Int) : Int := if n < 0 then 0 else n
/-- What is within the pad; the room along the way of a box; where a kid stands. -/
def padP (p : PlacedD) (pad : Int) : PlacedD := (p.1 + pad, p.2.1 + pad, pos0 (p.2.2.1 - 2 * pad), pos0 (p.2.2.2 - 2 * pad))
def roomL (lay : Int) (r : PlacedD) : Int := if lay = 2 then r.2.2.2 else r.2.2.1
def kidP (lay : Int) (r : PlacedD) (off s : Int) : PlacedD := if lay = 2 then (r.1, r.2.1 + off, r.2.2.1, s) else (r.1 + off, r.2.1, s, r.2.2.2)
def layN (lay : Int) (r : PlacedD) (ks sh : List Int) (ps : List PlacedD) : Nat → List PlacedD
  | 0 => ps
  | n + 1 => (layN lay r ks sh ps n).set (ks.getD n 0).toNat (kidP lay r (sh.take n).sum (sh.getD n 0))
theorem layN_len (lay : Int) (r : PlacedD) (ks sh : List Int) (ps : List PlacedD) : ∀ n, (layN lay r ks sh ps n).length = ps.length
  | 0 => rfl
  | n + 1 => by rw [layN, List.length_set, layN_len]
theorem layN_next {lay : Int} {r : PlacedD} {ks sh : List Int} {ps : List PlacedD} {n : Nat} {k s : Int} (hk : ks[n]? = some k) (hs : sh[n]? = some s) :
    layN lay r ks sh ps (n + 1) = (layN lay r ks sh ps n).set k.toNat (kidP lay r (sh.take n).sum s) := by
  rw [layN, List.getD, List.getD, hk, hs]
  rfl
noncomputable def layB (l : List BoxD) (ps : List PlacedD) (u : Nat) : List PlacedD :=
  match l[u]?, ps[u]? with
  | some b, some p => layN b.2.1 (padP p b.2.2.2.2) (kids l u l.length) (shA (roomL b.2.1 (padP p b.2.2.2.2)) (leasts l u l.length) (grows l u l.length)) ps (kids l u l.length).length
  | _, _ => ps
theorem layB_at {l : List BoxD} {ps : List PlacedD} {u : Nat} {b : BoxD} {p : PlacedD} (hb : l[u]? = some b) (hp : ps[u]? = some p) :
    layB l ps u = layN b.2.1 (padP p b.2.2.2.2) (kids l u l.length) (shA (roomL b.2.1 (padP p b.2.2.2.2)) (leasts l u l.length) (grows l u l.length)) ps (kids l u l.length).length := by
  unfold layB
  rw [hb, hp]
theorem layB_len (l : List BoxD) (ps : List PlacedD) (u : Nat) : (layB l ps u).length = ps.length := by
  unfold layB
  split
  · exact layN_len _ _ _ _ _ _
  · rfl
noncomputable def layA (l : List BoxD) (wide high : Int) : Nat → List PlacedD
  | 0 => (List.replicate l.length placed0).set 0 (0, 0, wide, high)
  | u + 1 => layB l (layA l wide high u) u
theorem layA_len (l : List BoxD) (wide high : Int) : ∀ u, (layA l wide high u).length = l.length
  | 0 => by simp [layA]
  | u + 1 => by rw [layA, layB_len, layA_len]
/-- Bounds of what is placed. -/
def PB (M : Int) (ps : List PlacedD) : Prop := ∀ p ∈ ps, (0 ≤ p.1 ∧ p.1 ≤ M) ∧ (0 ≤ p.2.1 ∧ p.2.1 ≤ M) ∧ (0 ≤ p.2.2.1 ∧ p.2.2.1 ≤ 10000) ∧ (0 ≤ p.2.2.2 ∧ p.2.2.2 ≤ 10000)
theorem sumT_bd : ∀ (l : List Int), (∀ x ∈ l, 0 ≤ x ∧ x ≤ 10000) → 0 ≤ l.sum ∧ l.sum ≤ 10000 * (l.length : Int)
  | [], _ => by simp
  | a :: l, h => by
    have h1 := sumT_bd l (fun x hx => h x (List.mem_cons_of_mem _ hx))
    have h2 := h a (List.mem_cons_self ..)
    simp only [List.sum_cons, List.length_cons]
    omega
theorem sum_pos : ∀ (l : List Int), (∀ x ∈ l, 0 ≤ x) → 0 ≤ l.sum
  | [], _ => by simp
  | a :: l, h => by
    have h1 := sum_pos l (fun x hx => h x (List.mem_cons_of_mem _ hx))
    have h2 := h a (List.mem_cons_self ..)
    simp only [List.sum_cons]
    omega
theorem sum_le_all : ∀ (l : List Int), (∀ x ∈ l, 0 ≤ x) → ∀ x ∈ l, x ≤ l.sum
  | [], _, x, hx => by simp at hx
  | a :: l, h, x, hx => by
    have h0 : ∀ x ∈ l, 0 ≤ x := fun x hx => h x (List.mem_cons_of_mem _ hx)
    have h1 := sum_le_all l h0
    have h2 := h a (List.mem_cons_self ..)
    have h3 := sum_pos l h0
    simp only [List.sum_cons]
    rcases List.mem_cons.1 hx with rfl | hx
    · omega
    · have := h1 x hx
      omega
theorem shA_bd {room : Int} {least grow : List Int} (h : RoomOk room least grow) : ∀ x ∈ shA room least grow, 0 ≤ x ∧ x ≤ 10000 := by
  have hs := shA_sum h
  have hg : 0 ≤ grow.sum := by
    have : ∀ g : List Int, (∀ x ∈ g, 0 ≤ x ∧ x ≤ 1000) → 0 ≤ g.sum := fun g hg => by
      induction g with
      | nil => simp
      | cons b l ih =>
        have h1 := hg b (List.mem_cons_self ..)
        have h2 := ih (fun x hx => hg x (List.mem_cons_of_mem _ hx))
        simp only [List.sum_cons]
        omega
    exact this grow h.2.2.2.2
  have hnn : ∀ x ∈ shA room least grow, 0 ≤ x := fun x hx => by
    obtain ⟨k, hk⟩ := List.mem_iff_getElem?.1 hx
    have hkl := (List.getElem?_eq_some_iff.1 hk).1
    rw [shA_len h.2.2.1] at hkl
    have h1 := shA_ge h (List.getElem?_eq_getElem hkl) hk
    have h2 := (h.2.2.2.1 _ (List.getElem_mem hkl)).1
    omega
  intro x hx
  refine ⟨hnn x hx, ?_⟩
  by_cases hc : 0 < grow.sum ∧ least.sum < room
  · have h1 := sum_le_all _ hnn x hx
    rw [hs.1 hc] at h1
    have := h.1.2
    omega
  · have e := hs.2 (by omega)
    rw [e] at hx
    exact (h.2.2.2.1 x hx).2
theorem pos0_bd {n : Int} (h : n ≤ 10000) : 0 ≤ pos0 n ∧ pos0 n ≤ 10000 := by unfold pos0; split <;> omega
theorem pad_bd {M : Int} {p : PlacedD} {pad : Int} (hp : (0 ≤ p.1 ∧ p.1 ≤ M) ∧ (0 ≤ p.2.1 ∧ p.2.1 ≤ M) ∧ (0 ≤ p.2.2.1 ∧ p.2.2.1 ≤ 10000) ∧ (0 ≤ p.2.2.2 ∧ p.2.2.2 ≤ 10000)) (hd : 0 ≤ pad ∧ pad ≤ 100) :
    (0 ≤ (padP p pad).1 ∧ (padP p pad).1 ≤ M + 100) ∧ (0 ≤ (padP p pad).2.1 ∧ (padP p pad).2.1 ≤ M + 100) ∧ (0 ≤ (padP p pad).2.2.1 ∧ (padP p pad).2.2.1 ≤ 10000) ∧ (0 ≤ (padP p pad).2.2.2 ∧ (padP p pad).2.2.2 ≤ 10000) := by
  have h1 := pos0_bd (n := p.2.2.1 - 2 * pad) (by omega)
  have h2 := pos0_bd (n := p.2.2.2 - 2 * pad) (by omega)
  unfold padP
  simp only
  omega
theorem room_bd {M : Int} {r : PlacedD} {lay : Int} (hr : (0 ≤ r.1 ∧ r.1 ≤ M) ∧ (0 ≤ r.2.1 ∧ r.2.1 ≤ M) ∧ (0 ≤ r.2.2.1 ∧ r.2.2.1 ≤ 10000) ∧ (0 ≤ r.2.2.2 ∧ r.2.2.2 ≤ 10000)) : 0 ≤ roomL lay r ∧ roomL lay r ≤ 10000 := by
  unfold roomL
  split <;> omega
theorem layN_bd {M : Int} {lay : Int} {r : PlacedD} {ks sh : List Int} {ps : List PlacedD} (h : PB M ps) (hr : (0 ≤ r.1 ∧ r.1 ≤ M + 100) ∧ (0 ≤ r.2.1 ∧ r.2.1 ≤ M + 100) ∧ (0 ≤ r.2.2.1 ∧ r.2.2.1 ≤ 10000) ∧ (0 ≤ r.2.2.2 ∧ r.2.2.2 ≤ 10000))
    (hs : ∀ x ∈ sh, 0 ≤ x ∧ x ≤ 10000) (hl : sh.length ≤ 40) : ∀ n, PB (M + 400100) (layN lay r ks sh ps n)
  | 0 => fun p hp => by have := h p hp; omega
  | n + 1 => fun p hp => by
    rw [layN] at hp
    rcases List.mem_or_eq_of_mem_set hp with hp | rfl
    · exact layN_bd h hr hs hl n p hp
    · have h1 := sumT_bd (sh.take n) (fun x hx => hs x (List.mem_of_mem_take hx))
      have h2 : ((sh.take n).length : Int) ≤ 40 := by rw [List.length_take]; omega
      have h3 : 0 ≤ sh.getD n 0 ∧ sh.getD n 0 ≤ 10000 := by
        rw [List.getD]
        cases hg : sh[n]? with
        | none => simp
        | some x => exact hs x (List.mem_of_getElem? hg)
      unfold kidP
      split <;> (simp only; omega)
theorem layB_bd {l : List BoxD} (hl : BoxesP l) {M : Int} {ps : List PlacedD} (h : PB M ps) (u : Nat) : PB (M + 400100) (layB l ps u) := by
  unfold layB
  split
  · rename_i b p hb hp
    have hul : u < l.length := (List.getElem?_eq_some_iff.1 hb).1
    have hbo := hl.2.2 u hul b hb
    have hpd := pad_bd (h p (List.mem_of_getElem? hp)) hbo.2.2.2.2.2
    have hsp := kids_shP hl u (Nat.le_refl _)
    refine layN_bd h hpd (shA_bd ⟨room_bd hpd, hsp⟩) ?_ _
    rw [shA_len hsp.2.1]
    exact hsp.1
  · exact fun p hp => by have := h p hp; omega
theorem layA_bd {l : List BoxD} (hl : BoxesP l) {wide high : Int} (hw : 0 ≤ wide ∧ wide ≤ 10000) (hh : 0 ≤ high ∧ high ≤ 10000) : ∀ u : Nat, PB (400100 * (u : Int)) (layA l wide high u)
  | 0 => fun p hp => by
    rw [layA] at hp
    rcases List.mem_or_eq_of_mem_set hp with hp | rfl
    · have := List.eq_of_mem_replicate hp
      subst this
      simp [placed0]
    · simp only
      omega
  | u + 1 => by
    have := layB_bd hl (layA_bd hl hw hh u) u
    rw [layA]
    intro p hp
    have := this p hp
    omega

end Go.Proofs.Ytaofilinejanjaa
