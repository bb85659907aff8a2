/-
  All quads: those of a way cover as many faces as are open along it, no two of a layer meet. Free of the program.
-/
import Derived.Test.YtnfkgnbhdhpnmaaQuadX13
import Derived.Test.YtnfkgnbhdhpnmaaLay13
import Derived.Test.YtnfkgnbhdhpnmaaFaces13
namespace Go.Proofs.Ytnfkgnbhdhpnmaa
open Go.ChangeShapes Go.WideShapes Go.ChangeAt Go.RowKit

def sumN (f : Nat → Nat) : Nat → Nat
  | 0 => 0
  | n + 1 => sumN f n + f n
theorem sum_ext {f g : Nat → Nat} : ∀ n, (∀ i, i < n → f i = g i) → sumN f n = sumN g n
  | 0, _ => rfl
  | n + 1, h => by simp only [sumN]; rw [sum_ext n (fun i hi => h i (by omega)), h n (by omega)]
theorem sum_add {f : Nat → Nat} (m : Nat) : ∀ n, sumN f (m + n) = sumN f m + sumN (fun i => f (m + i)) n
  | 0 => rfl
  | n + 1 => by
    show sumN f (m + n) + f (m + n) = _
    rw [sum_add m n]
    simp only [sumN]
    omega
theorem sum_prod {f : Nat → Nat} (n : Nat) : ∀ m, sumN f (m * n) = sumN (fun y => sumN (fun x => f (y * n + x)) n) m
  | 0 => by simp [sumN]
  | m + 1 => by
    rw [Nat.succ_mul, sum_add, sum_prod n m]
    rfl
theorem sum_zero : ∀ n, sumN (fun _ => 0) n = 0
  | 0 => rfl
  | n + 1 => by simp only [sumN]; rw [sum_zero n]
theorem sum_plus {f g : Nat → Nat} : ∀ n, sumN (fun i => f i + g i) n = sumN f n + sumN g n
  | 0 => rfl
  | n + 1 => by simp only [sumN]; rw [sum_plus n]; omega
theorem sum_swap {f : Nat → Nat → Nat} (n : Nat) : ∀ m, sumN (fun i => sumN (fun j => f i j) n) m = sumN (fun j => sumN (fun i => f i j) m) n
  | 0 => by
    simp only [sumN]
    exact (sum_zero n).symm
  | m + 1 => by
    show sumN (fun i => sumN (fun j => f i j) n) m + sumN (fun j => f m j) n = sumN (fun j => sumN (fun i => f i j) m + f m j) n
    rw [sum_swap n m, sum_plus]
theorem rowC_sum (G : Grid) (y : Nat) : ∀ n, rowC G y n = sumN (fun x => bitI (G x y)) n
  | 0 => rfl
  | n + 1 => by simp only [rowC, sumN]; rw [rowC_sum G y n]
theorem gridC_sum (G : Grid) (us : Nat) : ∀ m, gridC G us m = sumN (fun y => sumN (fun x => bitI (G x y)) us) m
  | 0 => rfl
  | m + 1 => by simp only [gridC, sumN]; rw [gridC_sum G us m, rowC_sum]
def opB (a b d : Int) (l : List Int) (way : Nat) (c : Nat) : Nat := if openM a b d l (c : Int) way = true then 1 else 0
theorem cnt_sum (a b d : Int) (l : List Int) (way : Nat) : ∀ n, cnt a b d l way n = ((sumN (opB a b d l way) n : Nat) : Int)
  | 0 => rfl
  | n + 1 => by
    simp only [cnt, sumN]
    rw [cnt_sum a b d l way n]
    unfold opB
    split <;> simp
theorem open_kind {a b d : Int} {l : List Int} {n : Int} {way : Nat} (h : openM a b d l n way = true) : getI l n ≠ 0 := by
  intro h0
  simp [openM, h0] at h
theorem face_bit {A B D : Nat} {l : List Int} {way at_ u v : Nat} (hu : u < usN A B way) (hv : v < vsN B D way) (c : Nat) (hc : cellQ A B way at_ u v = (c : Int)) : bitI (face A B D l way at_ u v) = opB A B D l way c := by
  have hf : face A B D l way at_ u v = if openM (A : Int) (B : Int) (D : Int) l (c : Int) way = true then getI l (c : Int) else 0 := by
    unfold face
    rw [if_pos ⟨hu, hv⟩, hc]
  rw [hf]
  unfold opB bitI
  cases h : openM (A : Int) (B : Int) (D : Int) l (c : Int) way with
  | true => simp only [if_true]; rw [if_neg (open_kind h)]
  | false => simp
theorem areaN_app (p q : List QuadD) : areaN (p ++ q) = areaN p + areaN q := by simp [areaN]
theorem area_way {A B D : Nat} (hA : 1 ≤ A) (hB : 1 ≤ B) (hD : 1 ≤ D) (l : List Int) (way : Nat) : ∀ k, areaN (quadsW A B D l way k) = sumN (fun at_ => gridC (face A B D l way at_) (usN A B way) (vsN B D way)) k
  | 0 => rfl
  | k + 1 => by
    rw [quadsW_succ, areaN_app, area_way hA hB hD l way k, lay_all (face_bd A B D l way k) (dims_pos hA hB hD way).1]
    rfl
theorem num_nat (A B x y z : Nat) : num (A : Int) (B : Int) (x : Int) (y : Int) (z : Int) = (((z * B + y) * A + x : Nat) : Int) := by unfold num; simp
/-- The quads of a way cover as many faces as are open along it. -/
theorem area_cnt {A B D : Nat} (hA : 1 ≤ A) (hB : 1 ≤ B) (hD : 1 ≤ D) (l : List Int) (hl : l.length = A * B * D) {way : Nat} (hw : way < 6) : ((areaN (quadsW A B D l way (sideN A B D way)) : Nat) : Int) = cnt A B D l way l.length := by
  rw [cnt_sum, hl, area_way hA hB hD]
  congr 1
  have e : A * B * D = D * B * A := by rw [Nat.mul_comm A B, Nat.mul_comm (B * A) D, Nat.mul_assoc]
  rw [e, sum_prod, sum_prod]
  have key : ∀ at_, gridC (face A B D l way at_) (usN A B way) (vsN B D way) = sumN (fun v => sumN (fun u => opB A B D l way ((pZ way at_ u v * B + pY way at_ u v) * A + pX way at_ u v)) (usN A B way)) (vsN B D way) := by
    intro at_
    rw [gridC_sum]
    exact sum_ext _ (fun v hv => sum_ext _ (fun u hu => face_bit hu hv _ (by unfold cellQ; exact num_nat _ _ _ _ _)))
  rw [sum_ext _ (fun at_ _ => key at_)]
  by_cases h2 : way < 2
  · simp only [pX, pY, pZ, usN, vsN, sideN, h2, show way < 4 by omega, if_true]
    rw [sum_swap D A]
    exact sum_ext _ (fun z _ => sum_swap B A)
  · by_cases h4 : way < 4
    · simp only [pX, pY, pZ, usN, vsN, sideN, h2, h4, if_true, if_false]
      exact sum_swap D B
    · simp only [pX, pY, pZ, usN, vsN, sideN, h2, h4, if_false]
/-- Two quads of one layer do not meet. -/
def Free (o q : QuadD) : Prop := o.1 = q.1 → o.2.1 = q.2.1 → ¬ Meet o q
structure QOk (way : Nat) (p : QuadD) : Prop where
  w : p.1 = (way : Int)
  u0 : 0 ≤ p.2.2.1
  v0 : 0 ≤ p.2.2.2.1
  w1 : 1 ≤ p.2.2.2.2.1
  h1 : 1 ≤ p.2.2.2.2.2.1
  k1 : 1 ≤ p.2.2.2.2.2.2
  uw : p.2.2.1 + p.2.2.2.2.1 ≤ 8
  vh : p.2.2.2.1 + p.2.2.2.2.2.1 ≤ 8
theorem quadsW_ok {A B D : Nat} (hA : 1 ≤ A) (hB : 1 ≤ B) (hD : 1 ≤ D) (h8 : A ≤ 8 ∧ B ≤ 8 ∧ D ≤ 8) {l : List Int} (hp : ∀ p ∈ l, 0 ≤ p) (way : Nat) : ∀ k, (∀ p ∈ quadsW A B D l way k, QOk way p ∧ p.2.1 < (k : Int)) ∧ (quadsW A B D l way k).Pairwise Free
  | 0 => ⟨fun p hp => (by cases hp), List.Pairwise.nil⟩
  | k + 1 => by
    obtain ⟨i1, i2⟩ := quadsW_ok hA hB hD h8 hp way k
    have L := lay_ok (way := way) (at_ := k) (face_bd A B D l way k) (dims_pos hA hB hD way).1 _ (Nat.le_refl _)
    rw [quadsW_succ]
    refine ⟨fun p h => ?_, List.pairwise_append.2 ⟨i2, L.apart.imp (fun h _ _ => h), fun o ho q hq _ he => ?_⟩⟩
    · rcases List.mem_append.1 h with h | h
      · obtain ⟨a, b⟩ := i1 p h
        exact ⟨a, by omega⟩
      · obtain ⟨a1, a2, a3, a4, a5, a6, a9, a10, x, y, a7, a8⟩ := L.each p h
        have hdl := dims_le h8.1 h8.2.1 h8.2.2 way
        refine ⟨⟨a1, a3, a4, a5, a6, ?_, by omega, by omega⟩, by rw [a2]; omega⟩
        rw [a7]
        have hnn : 0 ≤ face A B D l way k x y := by
          unfold face
          split
          · split
            · unfold getI
              rw [List.getD_eq_getElem?_getD]
              cases hg : l[(cellQ A B way k x y).toNat]? with
              | none => simp
              | some z => exact hp z (List.mem_of_getElem? hg)
            · omega
          · omega
        omega
    · have h1 := (i1 o ho).2
      have h2 := (L.each q hq).2.1
      rw [he, h2] at h1
      omega
theorem quadsL_ok {A B D : Nat} (hA : 1 ≤ A) (hB : 1 ≤ B) (hD : 1 ≤ D) (h8 : A ≤ 8 ∧ B ≤ 8 ∧ D ≤ 8) {l : List Int} (hp : ∀ p ∈ l, 0 ≤ p) : ∀ k, (∀ p ∈ quadsL A B D l k, ∃ way, way < k ∧ QOk way p) ∧ (quadsL A B D l k).Pairwise Free
  | 0 => ⟨fun p hp => (by cases hp), List.Pairwise.nil⟩
  | k + 1 => by
    obtain ⟨i1, i2⟩ := quadsL_ok hA hB hD h8 hp k
    obtain ⟨j1, j2⟩ := quadsW_ok hA hB hD h8 hp k (sideN A B D k)
    rw [quadsL_succ]
    refine ⟨fun p h => ?_, List.pairwise_append.2 ⟨i2, j2, fun o ho q hq he _ => ?_⟩⟩
    · rcases List.mem_append.1 h with h | h
      · obtain ⟨w, a, b⟩ := i1 p h
        exact ⟨w, by omega, b⟩
      · exact ⟨k, by omega, (j1 p h).1⟩
    · obtain ⟨w, a, b⟩ := i1 o ho
      have h1 := b.w
      have h2 := (j1 q hq).1.w
      rw [he, h2] at h1
      omega
/-- How much the quads of a way cover. -/
def areaW (way : Nat) (q : List QuadD) : Int := (q.map fun p => if p.1 = (way : Int) then p.2.2.2.2.1 * p.2.2.2.2.2.1 else 0).sum
theorem areaW_snoc (way : Nat) (q : List QuadD) (p : QuadD) : areaW way (q ++ [p]) = areaW way q + (if p.1 = (way : Int) then p.2.2.2.2.1 * p.2.2.2.2.2.1 else 0) := by simp [areaW]
theorem areaW_app (way : Nat) (p q : List QuadD) : areaW way (p ++ q) = areaW way p + areaW way q := by simp [areaW]
theorem areaW_same {way : Nat} : ∀ {q : List QuadD}, (∀ p ∈ q, QOk way p) → areaW way q = ((areaN q : Nat) : Int)
  | [], _ => rfl
  | p :: q, h => by
    have ih := areaW_same (way := way) (q := q) (fun p hp => h p (List.mem_cons_of_mem _ hp))
    have hp := h p (List.mem_cons_self ..)
    have e1 : areaW way (p :: q) = (if p.1 = (way : Int) then p.2.2.2.2.1 * p.2.2.2.2.2.1 else 0) + areaW way q := by simp [areaW]
    have e2 : areaN (p :: q) = p.2.2.2.2.1.toNat * p.2.2.2.2.2.1.toNat + areaN q := by simp [areaN]
    rw [e1, e2, ih, if_pos hp.w]
    have h1 := hp.w1
    have h2 := hp.h1
    rw [Int.natCast_add, Int.natCast_mul, Int.toNat_of_nonneg (by omega), Int.toNat_of_nonneg (by omega)]
theorem areaW_other {way way' : Nat} (hne : way ≠ way') : ∀ {q : List QuadD}, (∀ p ∈ q, QOk way' p) → areaW way q = 0
  | [], _ => rfl
  | p :: q, h => by
    have ih := areaW_other (q := q) hne (fun p hp => h p (List.mem_cons_of_mem _ hp))
    have hp := (h p (List.mem_cons_self ..)).w
    have e1 : areaW way (p :: q) = (if p.1 = (way : Int) then p.2.2.2.2.1 * p.2.2.2.2.2.1 else 0) + areaW way q := by simp [areaW]
    rw [e1, ih, if_neg (by rw [hp]; omega)]
    rfl
theorem areaL {A B D : Nat} (hA : 1 ≤ A) (hB : 1 ≤ B) (hD : 1 ≤ D) (h8 : A ≤ 8 ∧ B ≤ 8 ∧ D ≤ 8) {l : List Int} (hp : ∀ p ∈ l, 0 ≤ p) (hl : l.length = A * B * D) (way : Nat) : ∀ k, k ≤ 6 → areaW way (quadsL A B D l k) = if way < k then cnt A B D l way l.length else 0
  | 0, _ => by simp [quadsL, areaW]
  | k + 1, hk => by
    rw [quadsL_succ, areaW_app, areaL hA hB hD h8 hp hl way k (by omega)]
    have hq := fun p h => ((quadsW_ok hA hB hD h8 hp k (sideN A B D k)).1 p h).1
    by_cases e : way = k
    · subst e
      rw [if_neg (by omega), if_pos (by omega), areaW_same hq, area_cnt hA hB hD l hl (by omega)]
      omega
    · rw [areaW_other e hq]
      by_cases h : way < k
      · rw [if_pos h, if_pos (by omega)]; omega
      · rw [if_neg h, if_neg (by omega)]; rfl
theorem areaW_in (way : Nat) : ∀ {q : List QuadD}, (∀ p ∈ q, ∃ w, w < 6 ∧ QOk w p) → 0 ≤ areaW way q ∧ areaW way q ≤ 64 * (q.length : Int)
  | [], _ => by simp [areaW]
  | p :: q, h => by
    have ih := areaW_in way (q := q) (fun p hp => h p (List.mem_cons_of_mem _ hp))
    obtain ⟨w, _, hp⟩ := h p (List.mem_cons_self ..)
    have e1 : areaW way (p :: q) = (if p.1 = (way : Int) then p.2.2.2.2.1 * p.2.2.2.2.2.1 else 0) + areaW way q := by simp [areaW]
    have hm : 0 ≤ p.2.2.2.2.1 * p.2.2.2.2.2.1 ∧ p.2.2.2.2.1 * p.2.2.2.2.2.1 ≤ 8 * 8 := by
      have := hp.u0
      have := hp.v0
      have := hp.w1
      have := hp.h1
      have := hp.uw
      have := hp.vh
      exact ⟨Int.mul_nonneg (by omega) (by omega), Int.mul_le_mul (by omega) (by omega) (by omega) (by omega)⟩
    rw [e1, List.length_cons]
    split <;> omega
end Go.Proofs.Ytnfkgnbhdhpnmaa
