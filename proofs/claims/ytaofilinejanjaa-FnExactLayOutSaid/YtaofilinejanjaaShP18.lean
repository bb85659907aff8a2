/-
  Room that is shared; free of the program.
-/
import Derived.Test.YtaofilinejanjaaFrom18
namespace Go.Proofs.Ytaofilinejanjaa
open Go.ChangeShapes Go.WideShapes Go.ChangeAt Go.RowKit

set_option maxRecDepth 100000
set_option linter.unusedVariables false

theorem ex_srt (r : Int → Int) : ∀ l : List Int, l.Nodup → ∃ D, D.Perm l ∧ Srt r D
  | [], _ => ⟨[], List.Perm.refl _, List.Pairwise.nil⟩
  | x :: l, h => by
    obtain ⟨hx, hl⟩ := List.nodup_cons.1 h
    obtain ⟨D, hD, hS⟩ := ex_srt r l hl
    refine ⟨D.filter (fun y => dec (bef r y x)) ++ x :: D.filter (fun y => !dec (bef r y x)), ?_, ?_⟩
    · refine List.perm_middle.trans (List.Perm.cons x ?_)
      exact (List.filter_append_perm (fun y => dec (bef r y x)) D).trans hD
    · refine List.pairwise_append.2 ⟨hS.sublist List.filter_sublist, List.pairwise_cons.2 ⟨fun y hy => ?_, hS.sublist List.filter_sublist⟩, fun a ha b hb => ?_⟩
      · have hm := List.mem_filter.1 hy
        have hne : y ≠ x := fun e => hx (hD.mem_iff.1 (e ▸ hm.1))
        have hnb : ¬ bef r y x := fun hb => by have := hm.2; rw [dec_yes hb] at this; simp at this
        exact (bef_total hne).resolve_left hnb
      · have ha' := List.mem_filter.1 ha
        have hax : bef r a x := of_dec ha'.2
        rcases List.mem_cons.1 hb with rfl | hb
        · exact hax
        · have hm := List.mem_filter.1 hb
          have hne : b ≠ x := fun e => hx (hD.mem_iff.1 (e ▸ hm.1))
          have hnb : ¬ bef r b x := fun hb => by have := hm.2; rw [dec_yes hb] at this; simp at this
          exact bef_trans hax ((bef_total hne).resolve_left hnb)
theorem srt_uniq {r : Int → Int} : ∀ {D D' : List Int}, D.Perm D' → Srt r D → Srt r D' → D = D'
  | [], D', h, _, _ => (List.Perm.nil_eq h)
  | x :: D, [], h, _, _ => absurd h.length_eq (by simp)
  | x :: D, y :: D', h, h1, h2 => by
    obtain ⟨a1, a2⟩ := List.pairwise_cons.1 h1
    obtain ⟨b1, b2⟩ := List.pairwise_cons.1 h2
    have hxy : x = y := by
      rcases List.mem_cons.1 (h.mem_iff.1 (List.mem_cons_self (a := x) (l := D))) with e | e
      · exact e
      · rcases List.mem_cons.1 (h.mem_iff.2 (List.mem_cons_self (a := y) (l := D'))) with e2 | e2
        · exact e2.symm
        · exact absurd (b1 x e) (bef_asymm (a1 y e2))
    subst hxy
    rw [srt_uniq (List.Perm.cons_inv h) a2 b2]
theorem pl_nodup (n : Nat) : (pl n).Nodup := (pl_rise n).imp fun h => by omega
noncomputable def ordD (r : Int → Int) (n : Nat) : List Int := Classical.choose (ex_srt r (pl n) (pl_nodup n))
theorem ordD_perm (r : Int → Int) (n : Nat) : (ordD r n).Perm (pl n) := (Classical.choose_spec (ex_srt r (pl n) (pl_nodup n))).1
theorem ordD_srt (r : Int → Int) (n : Nat) : Srt r (ordD r n) := (Classical.choose_spec (ex_srt r (pl n) (pl_nodup n))).2
theorem ordD_is {r : Int → Int} {n : Nat} {D : List Int} (h1 : D.Perm (pl n)) (h2 : Srt r D) : D = ordD r n := srt_uniq (h1.trans (ordD_perm r n).symm) h2 (ordD_srt r n)
theorem ordD_len (r : Int → Int) (n : Nat) : (ordD r n).length = n := by rw [(ordD_perm r n).length_eq, pl_len]
def bump (l : List Int) (i : Int) : List Int := l.set i.toNat ((l[i.toNat]?).getD 0 + 1)
def bumpL (l is : List Int) : List Int := is.foldl bump l
theorem bump_len (l : List Int) (i : Int) : (bump l i).length = l.length := by simp [bump]
theorem bumpL_len (is : List Int) : ∀ l : List Int, (bumpL l is).length = l.length := by
  induction is with
  | nil => intro l; rfl
  | cons i is ih => intro l; show (bumpL (bump l i) is).length = _; rw [ih, bump_len]
theorem bumpL_snoc (l is : List Int) (i : Int) : bumpL l (is ++ [i]) = bump (bumpL l is) i := by simp [bumpL]
/-- What each gets ahead of what is shared one by one, and what is left of each division. -/
def shrL (left gs : Int) (grow : List Int) : List Int := grow.map fun p => left * p / gs
def rstL (left gs : Int) (grow : List Int) : List Int := grow.map fun p => left * p % gs
def basL (left gs : Int) (least grow : List Int) : List Int := List.zipWith (fun a p => a + left * p / gs) least grow
theorem shr_rst (left gs : Int) : ∀ grow : List Int, (shrL left gs grow).sum * gs + (rstL left gs grow).sum = left * grow.sum
  | [] => by simp [shrL, rstL]
  | p :: l => by
    have h := shr_rst left gs l
    have h2 := Int.mul_ediv_add_emod (left * p) gs
    simp only [shrL, rstL, List.map_cons, List.sum_cons] at *
    rw [Int.add_mul, Int.mul_add, Int.mul_comm (left * p / gs) gs]
    omega
theorem rst_bd (left gs : Int) (hg : 0 < gs) : ∀ grow : List Int, 0 ≤ (rstL left gs grow).sum ∧ (rstL left gs grow).sum ≤ (grow.length : Int) * (gs - 1)
  | [] => by simp [rstL]
  | p :: l => by
    have h := rst_bd left gs hg l
    have h1 := Int.emod_nonneg (left * p) (b := gs) (by omega)
    have h2 := Int.emod_lt_of_pos (left * p) hg
    simp only [rstL, List.map_cons, List.sum_cons, List.length_cons] at *
    have e : ((l.length + 1 : Nat) : Int) * (gs - 1) = (l.length : Int) * (gs - 1) + (gs - 1) := by
      rw [show ((l.length + 1 : Nat) : Int) = (l.length : Int) + 1 by omega, Int.add_mul, Int.one_mul]
    omega
/-- No more is left over than there are. -/
theorem over_bd (left : Int) (grow : List Int) (hg : 0 < grow.sum) (hn : 0 < grow.length) : 0 ≤ left - (shrL left grow.sum grow).sum ∧ left - (shrL left grow.sum grow).sum < (grow.length : Int) := by
  have h := shr_rst left grow.sum grow
  obtain ⟨h1, h2⟩ := rst_bd left grow.sum hg grow
  have e : (left - (shrL left grow.sum grow).sum) * grow.sum = (rstL left grow.sum grow).sum := by rw [Int.sub_mul]; omega
  generalize left - (shrL left grow.sum grow).sum = o at *
  generalize grow.sum = g at *
  constructor
  · exact Int.not_lt.1 fun hneg => by
      have := Int.mul_neg_of_neg_of_pos hneg hg
      omega
  · refine Int.lt_of_mul_lt_mul_right (a := g) ?_ (by omega)
    have h3 : (grow.length : Int) * (g - 1) < (grow.length : Int) * g := by
      rw [Int.mul_sub, Int.mul_one]
      omega
    omega
noncomputable def shA (room : Int) (least grow : List Int) : List Int :=
  if room - least.sum ≤ 0 ∨ grow.sum = 0 then least
  else bumpL (basL (room - least.sum) grow.sum least grow) ((ordD (rAt (rstL (room - least.sum) grow.sum grow)) grow.length).take (room - least.sum - (shrL (room - least.sum) grow.sum grow).sum).toNat)
def ShP (least grow : List Int) : Prop := least.length ≤ 40 ∧ grow.length = least.length ∧ (∀ x ∈ least, 0 ≤ x ∧ x ≤ 10000) ∧ (∀ x ∈ grow, 0 ≤ x ∧ x ≤ 1000)
theorem sum_bd {l : List Int} {B : Int} : ∀ (k : Nat), (∀ x ∈ l, 0 ≤ x ∧ x ≤ B) → l.length = k → 0 ≤ l.sum ∧ l.sum ≤ (k : Int) * B := by
  induction l with
  | nil => intro k h hk; subst hk; simp
  | cons a l ih =>
    intro k h hk
    subst hk
    have h1 := ih l.length (fun x hx => h x (List.mem_cons_of_mem _ hx)) rfl
    have h2 := h a (List.mem_cons_self ..)
    rw [List.sum_cons, List.length_cons, show ((l.length + 1 : Nat) : Int) * B = (l.length : Int) * B + B by rw [show ((l.length + 1 : Nat) : Int) = (l.length : Int) + 1 by omega, Int.add_mul, Int.one_mul]]
    omega
theorem sum_take {l : List Int} {k : Nat} {p : Int} (h : l[k]? = some p) : (l.take (k + 1)).sum = (l.take k).sum + p := by rw [take_snoc h]; simp

end Go.Proofs.Ytaofilinejanjaa
