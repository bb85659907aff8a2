/-
  Rows of their own, weighing, marks: what every law over lists wants. Free of the program.
-/
import Derived.Test.YtaadlhcpgjibeaaDoorMem
import Derived.Laws.BytesArg
namespace Go.Proofs.YtaadlhcpgjibeaaDoor
open Go.ChangeShapes Go.WideShapes Go.ChangeAt Go.RowKit

theorem row_nil {w : World} {v : Value} {n : Nat} {xs : List Value} (h : RowAt w v n xs) : ∃ ao cap, v = .slice ao n cap := by
  obtain ⟨ao, cap, e, _⟩ := h
  exact ⟨ao, cap, e⟩

theorem take_snoc {α : Type} {l : List α} {k : Nat} {a : α} (h : l[k]? = some a) : l.take (k + 1) = l.take k ++ [a] := by
  rw [List.take_add_one, h]; rfl

/-- A row of its own, in a block from lo to below hi. -/
def RowO (w : World) (lo hi : Nat) (e : TypeId) (size : Nat) (v : Value) (n : Nat) (xs : List Value) : Prop :=
  w.ownsRow lo e size v n xs ∧ ∀ g, v.ownBlock = some g → g < hi

def Ap (a b : Value) : Prop := ∀ g, a.ownBlock = some g → b.ownBlock ≠ some g

section
variable {w w' : World} {lo hi lo' hi' : Nat} {e e' : TypeId} {size size' : Nat} {v v' : Value} {n n' : Nat} {xs xs' : List Value}

theorem RowO.mono (h : RowO w lo hi e size v n xs) (h1 : lo' ≤ lo) (h2 : hi ≤ hi') : RowO w lo' hi' e size v n xs :=
  ⟨own_base h.1 h1, fun g hg => Nat.lt_of_lt_of_le (h.2 g hg) h2⟩

theorem RowO.top (h : w.ownsRow lo e size v n xs) : RowO w lo w.heap.size e size v n xs := ⟨h, fun _ hg => (own_lt h hg).2⟩

theorem RowO.low (h : RowO w lo hi e size v n xs) : RowO w lo w.heap.size e size v n xs := RowO.top h.1

theorem RowO.but (h : RowO w lo hi e size v n xs) (k : But lo' hi' w w') (ho : hi ≤ lo' ∨ hi' ≤ lo) : RowO w' lo hi e size v n xs := by
  refine ⟨own_but h.1 k fun g hg => ?_, h.2⟩
  have h1 := own_lt h.1 hg
  have h2 := h.2 g hg
  omega

theorem RowO.kept (h : RowO w lo hi e size v n xs) (k : Kept w w') : RowO w' lo hi e size v n xs := h.but k (by omega)

/-- Rows of unlike elements lie in unlike blocks. -/
theorem ap_types (h : RowO w lo hi e size v n xs) (h' : RowO w lo' hi' e' size' v' n' xs') (ne : e ≠ e') : Ap v v' := by
  intro g hg hg'
  rcases h.1.2 with ⟨rfl, _⟩ | ⟨a, cap, cur, rfl, _, ha, _⟩
  · simp [Value.ownBlock] at hg
  · rcases h'.1.2 with ⟨rfl, _⟩ | ⟨a', cap', cur', rfl, _, ha', _⟩
    · simp [Value.ownBlock] at hg'
    · simp [Value.ownBlock] at hg hg'
      subst hg hg'
      rw [ha] at ha'
      simp at ha'
      exact ne ha'.2

theorem ap_low (h : RowO w lo hi e size v n xs) (h' : RowO w lo' hi' e' size' v' n' xs') (hl : hi ≤ lo' ∨ hi' ≤ lo) : Ap v v' := by
  intro g hg hg'
  have h1 := own_lt h.1 hg
  have h2 := h.2 g hg
  have h3 := own_lt h'.1 hg'
  have h4 := h'.2 g hg'
  omega

theorem Ap.symm {a b : Value} (h : Ap a b) : Ap b a := fun g hg hg' => h g hg' hg

/-- What has changed is one row's own block alone: from blo to below bhi. -/
def blo (v : Value) : Nat := v.ownBlock.getD 0

def bhi (v : Value) : Nat := match v.ownBlock with
  | some g => g + 1
  | none => 0

theorem RowO.apart (h : RowO w lo hi e size v n xs) (k : But (blo v') (bhi v') w w') (ha : Ap v v') : RowO w' lo hi e size v n xs := by
  refine ⟨own_but h.1 k fun g hg => ?_, h.2⟩
  have := ha g hg
  unfold blo bhi
  cases hv : v'.ownBlock with
  | none => simp
  | some k =>
    rw [hv] at this
    simp at this ⊢
    omega

theorem But.inner {a b : World} (k : But (blo v) (bhi v) a b) (h : RowO w lo hi e size v n xs) : But lo hi a b := by
  have hk := k
  unfold blo bhi at k
  cases hv : v.ownBlock with
  | none => rw [hv] at k; exact But.of k
  | some g =>
    rw [hv] at k
    have h1 := own_lt h.1 hv
    have h2 := h.2 g hv
    exact k.mono h1.1 h2

theorem but_of_grown {a b : World} (g : a.grownBy b v.ownBlock) : But (blo v) (bhi v) a b := by
  refine (But.refl _ _ a).grown g fun k hk => .inr ?_
  unfold blo bhi
  rw [hk]
  simp

theorem RowO.grown (h : RowO w lo hi e size v n xs) (k : w.grownBy w' v'.ownBlock) (ha : Ap v v') : RowO w' lo hi e size v n xs := h.apart (but_of_grown k) ha

end

/-- A cell of a row's own set anew. -/
theorem RowO.set {w : World} {lo hi : Nat} {e : TypeId} {size : Nat} {n g cap : Nat} {xs : List Value} (h : RowO w lo hi e size (.slice (some ⟨g, 0, none⟩) n cap) n xs) (j : Nat) (u : Value) :
    RowO (w.setCell ⟨g, j, none⟩ u) lo hi e size (.slice (some ⟨g, 0, none⟩) n cap) n (xs.set j u) := ⟨own_set h.1 j u, h.2⟩

theorem but_set (w : World) (g n cap j : Nat) (u : Value) : But (blo (.slice (some ⟨g, 0, none⟩) n cap)) (bhi (.slice (some ⟨g, 0, none⟩) n cap)) w (w.setCell ⟨g, j, none⟩ u) :=
  (But.refl _ _ w).setCell (by simp [blo, Value.ownBlock]) (by simp [bhi, Value.ownBlock]) u

theorem get_set {α : Type} {l : List α} {i j : Nat} {a b : α} (h : (l.set i a)[j]? = some b) : (j = i ∧ b = a) ∨ (j ≠ i ∧ l[j]? = some b) := by
  rw [List.getElem?_set] at h
  by_cases e : i = j
  · subst e
    rw [if_pos rfl] at h
    by_cases hl : i < l.length
    · rw [if_pos hl] at h; cases h; exact .inl ⟨rfl, rfl⟩
    · rw [if_neg hl] at h; cases h
  · rw [if_neg e] at h
    exact .inr ⟨fun x => e x.symm, h⟩

theorem made_flat {α : Type} (z : Array Value) (k : Nat) (hk : 0 < k) (f : α → List Value) (a : α) (hf : ∀ a, (f a).length = k) (hz : f a = z.toList) (n : Nat) : (madeCells z (n * k)).toList = (List.replicate n a).flatMap f := by
  have hs : z.size = k := by rw [← Array.length_toList, ← hz, hf]
  apply List.ext_getElem?
  intro m
  by_cases hm : m < n * k
  · have h1 : m / k < n := (Nat.div_lt_iff_lt_mul hk).2 hm
    have h2 : m % k < k := Nat.mod_lt _ hk
    have h3 := flat_get k f hf (List.replicate n a) (m / k) (m % k) a (by simp [h1]) h2
    rw [Nat.div_add_mod] at h3
    rw [h3, hz, Array.getElem?_toList, Array.getElem?_toList]
    simp only [madeCells, Array.getElem?_map, Array.getElem?_range, hm, if_true, Option.map_some, hs]
    rw [getElem!_pos z (m % k) (by omega), Array.getElem?_eq_getElem (by omega)]
  · rw [List.getElem?_eq_none (by rw [Array.length_toList, size_madeCells]; omega), List.getElem?_eq_none (by rw [flat_len k f hf]; simp; omega)]

theorem row_made {α : Type} (w : World) (lo : Nat) (e : TypeId) (z : Array Value) (k : Nat) (hk : 0 < k) (f : α → List Value) (a : α) (hf : ∀ a, (f a).length = k) (hz : f a = z.toList) (n : Nat) (hlo : lo ≤ w.heap.size) (hn : n ≤ maxLen) :
    RowO (w.alloc (.cells (madeCells z (n * k)) e)) lo (w.heap.size + 1) e k (.slice (some ⟨w.heap.size, 0, none⟩) n n) n ((List.replicate n a).flatMap f) := by
  refine ⟨⟨by rw [flat_len k f hf]; simp, .inr ⟨w.heap.size, n, _, rfl, hlo, heap_alloc_new w _, Nat.le_refl _, hn, size_madeCells _ _, ?_⟩⟩, fun g hg => ?_⟩
  · rw [made_flat z k hk f a hf hz, List.take_of_length_le (by rw [flat_len k f hf]; simp)]
  · simp [Value.ownBlock] at hg
    omega

theorem fill_get {α : Type} (l : List α) (d : α) {k : Nat} (h : k < l.length) : (l.take k ++ List.replicate (l.length - k) d)[k]? = some d := by
  rw [List.getElem?_append_right (by simp; omega)]
  have : k - (l.take k).length = 0 := by simp; omega
  rw [this, List.getElem?_replicate, if_pos (by omega)]

theorem fill_set {α : Type} (l : List α) (d : α) {k : Nat} {a : α} (h : l[k]? = some a) : (l.take k ++ List.replicate (l.length - k) d).set k a = l.take (k + 1) ++ List.replicate (l.length - (k + 1)) d := by
  have hk : k < l.length := (List.getElem?_eq_some_iff.1 h).1
  have hl : (l.take k).length = k := by simp; omega
  rw [List.set_append_right _ _ (by omega), hl, Nat.sub_self, show l.length - k = (l.length - (k + 1)) + 1 by omega, List.replicate_succ, List.set_cons_zero, take_snoc h, List.append_assoc]
  rfl

theorem fill_len {α : Type} (l : List α) (d : α) {k : Nat} (h : k ≤ l.length) : (l.take k ++ List.replicate (l.length - k) d).length = l.length := by simp; omega

/-- What the weighing answers: what is left, or -1. -/
def leftOf (left : Int) (cost : Nat) : Int := if (cost : Int) ≤ left then left - cost else -1

theorem ret_int {a b : Int} (h : a = b) : Ending.returned (.int .i64 a) = .returned (.int .i64 b) := by rw [h]

theorem leftOf_no {left : Int} {cost : Nat} (h : left < (cost : Int)) : leftOf left cost = -1 := if_neg (by omega)

theorem leftOf_yes {left : Int} {cost : Nat} (h : (cost : Int) ≤ left) : leftOf left cost = left - cost := if_pos h

def digs : Nat → Nat → ByteArray → ByteArray
  | 0, _, s => s
  | f + 1, j, s => if j = 0 then s else digs f (j / 10) (strOfNums [48 + (j : Int) % 10] ++ s)

def mtext (k : Nat) : ByteArray := if k = 0 then ⟨#[109, 48]⟩ else ⟨#[109]⟩ ++ digs k k ⟨#[]⟩

theorem digs_zero (f : Nat) (s : ByteArray) : digs f 0 s = s := by cases f <;> simp [digs]

theorem one_size (c : Int) : (strOfNums [c]).size = 1 := by simp [strOfNums, ByteArray.size]

def mix {α : Type} (a b : List α) (i : Nat) : List α := a.take i ++ b.drop i

theorem mix_zero {α : Type} (a b : List α) : mix a b 0 = b := by simp [mix]

theorem mix_all {α : Type} (a b : List α) (i : Nat) (ha : a.length = i) (hb : b.length = i) : mix a b i = a := by
  subst ha
  simp [mix, hb]

theorem mix_len {α : Type} (a b : List α) (i : Nat) (h : a.length = b.length) (hi : i ≤ b.length) : (mix a b i).length = b.length := by simp [mix]; omega

theorem mix_get {α : Type} (a b : List α) (i : Nat) (h : a.length = b.length) (hi : i < b.length) : (mix a b i)[i]? = b[i]? := by
  rw [mix, List.getElem?_append_right (by simp; omega)]
  have : i - (a.take i).length = 0 := by simp; omega
  rw [this, List.getElem?_drop, Nat.add_zero]

theorem mix_set {α : Type} (a b : List α) (i : Nat) (x : α) (h : a.length = b.length) (hx : a[i]? = some x) : (mix a b i).set i x = mix a b (i + 1) := by
  have hi : i < a.length := (List.getElem?_eq_some_iff.1 hx).1
  have hl : (a.take i).length = i := by simp; omega
  rw [mix, mix, List.set_append_right _ _ (by omega), hl, Nat.sub_self, List.drop_eq_getElem_cons (by omega : i < b.length), List.set_cons_zero, take_snoc hx, List.append_assoc]
  rfl

/-- The cells of one element of a row. -/
theorem row_get {α : Type} (k : Nat) (f : α → List Value) (hf : ∀ a, (f a).length = k) (hk : 0 < k) {w : World} {v : Value} {ps : List α} (h : RowAt w v ps.length (ps.flatMap f)) {i : Nat} {p : α} (hp : ps[i]? = some p) :
    ∃ b o cap, v = .slice (some ⟨b, o, none⟩) ps.length cap ∧ ∀ j u, (f p)[j]? = some u → w.cell? ⟨b, o + i * k + j, none⟩ = some u := by
  obtain ⟨ao, cap, rfl, hc⟩ := h
  obtain ⟨u0, h0⟩ : ∃ u, (f p)[0]? = some u := ⟨_, List.getElem?_eq_getElem (by rw [hf]; exact hk)⟩
  have e0 := flat_get k f hf ps i 0 p hp hk
  rw [h0] at e0
  obtain ⟨b, o, rfl, _⟩ := hc _ _ e0
  refine ⟨b, o, cap, rfl, fun j u hu => ?_⟩
  have hj : j < k := by have := (List.getElem?_eq_some_iff.1 hu).1; rw [hf] at this; exact this
  have e1 := flat_get k f hf ps i j p hp hj
  rw [hu] at e1
  obtain ⟨b', o', q, hcell⟩ := hc _ _ e1
  cases q
  rw [show o + i * k + j = o + (k * i + j) by rw [Nat.mul_comm]; omega]
  exact hcell
theorem own_get {α : Type} (k : Nat) (f : α → List Value) (hf : ∀ a, (f a).length = k) (hk : 0 < k) {w : World} {lo hi : Nat} {e : TypeId} {g n cap : Nat} {ps : List α} (h : RowO w lo hi e k (.slice (some ⟨g, 0, none⟩) n cap) ps.length (ps.flatMap f)) {i : Nat} {p : α} (hp : ps[i]? = some p) :
    (∀ j u, (f p)[j]? = some u → w.cell? ⟨g, i * k + j, none⟩ = some u) ∧ ∀ o, w.frozen? ⟨g, o, none⟩ = false := by
  obtain ⟨b, o, cap', e, hc⟩ := row_get k f hf hk (own_row h.1) hp
  rcases h.1.2 with ⟨hv, _⟩ | ⟨g', cap1, cur, hv, hbs, hgg, _⟩
  · cases hv
  · cases hv
    cases e
    refine ⟨fun j u hu => by simpa using hc j u hu, fun o => by simp [World.frozen?, hgg]⟩

end Go.Proofs.YtaadlhcpgjibeaaDoor
