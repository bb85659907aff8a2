/-
  A region whose first operations only read, in whatever order, and whose rest come one behind another.
-/
import Derived.Test.YtaadlhcpgjibeaaQuiet
namespace Go.Proofs.Ytaadlhcpgjibeaa
open Go.ChangeShapes Go.WideShapes Go.ChangeAt Go.RowKit
section
variable {P : Program} {ops : Array Oper} {md : Region.Mode} {C : World → Prop}

/-- Whatever order is picked until so many have come up. -/
def wpAnyP (P : Program) (md : Region.Mode) (ops : Array Oper) (C : World → Prop) (T : Array Bool → Act → Prop) : Nat → Array Bool → Act → Prop
  | 0, listed, a => T listed a
  | n + 1, listed, a => Region.ready md ops listed ≠ [] ∧ ∀ i ∈ Region.ready md ops listed, qOp P ops C i (wpAnyP P md ops C T n (listed.setIfInBounds i true)) a

theorem wpAny_of_P {T : Array Bool → Act → Prop} {Q' : Exit → Act → World → Prop} {k : Nat} (hT : ∀ listed a w, C w → T listed a → wpAny P md ops Q' k listed a w) : ∀ (n : Nat) (listed : Array Bool) (a : Act) (w : World), C w →
    wpAnyP P md ops C T n listed a → wpAny P md ops Q' (n + k) listed a w
  | 0, _, _, _, hw, h => by rw [Nat.zero_add]; exact hT _ _ _ hw h
  | n + 1, _, _, _, hw, h => by
    rw [show n + 1 + k = (n + k) + 1 by omega]
    exact ⟨fun h0 => absurd h0 h.1, fun i hi => wpOp_of_qOp hw (fun a' w' hw' => wpAny_of_P hT n _ a' w' hw') (h.2 i hi)⟩

/-- Whoever has come up, all that it waits for have. -/
def DC (md : Region.Mode) (ops : Array Oper) (listed : Array Bool) : Prop := ∀ j o, ops[j]? = some o → listed.getD j false = true → ∀ e ∈ o.after, Region.binds md e = true → listed.getD e.on false = true

theorem getD_of_set {listed : Array Bool} {i j : Nat} (h : (listed.setIfInBounds i true).getD j false = true) : j = i ∨ listed.getD j false = true := by
  by_cases hij : i = j
  · exact .inl hij.symm
  · rw [getD_set_ne false hij] at h
    exact .inr h
theorem DC.set {listed : Array Bool} {i : Nat} (h : DC md ops listed) (hr : i ∈ Region.ready md ops listed) : DC md ops (listed.setIfInBounds i true) := by
  intro j o hj hl e he hb
  rcases getD_of_set hl with rfl | hl
  · obtain ⟨_, o', ho', hall⟩ := mem_ready.1 hr
    rw [hj] at ho'
    cases ho'
    exact getD_set_true (hall e he hb)
  · exact getD_set_true (h j o hj hl e he hb)

def depsOf (md : Region.Mode) (ops : Array Oper) (j : Nat) : List Nat := match ops[j]? with
  | none => []
  | some o => (o.after.toList.filter (fun e => Region.binds md e)).map (fun e => e.on)
def reachOf (md : Region.Mode) (ops : Array Oper) : Nat → List Nat → List Nat
  | 0, S => S
  | k + 1, S => reachOf md ops k (S ++ S.flatMap (depsOf md ops))
theorem reach_listed {listed : Array Bool} (h : DC md ops listed) : ∀ (k : Nat) (S : List Nat), (∀ j ∈ S, listed.getD j false = true) → ∀ j ∈ reachOf md ops k S, listed.getD j false = true
  | 0, _, hS => hS
  | k + 1, S, hS => by
    refine reach_listed h k _ fun j hj => ?_
    rcases List.mem_append.1 hj with hj | hj
    · exact hS j hj
    · obtain ⟨i, hi, hj⟩ := List.mem_flatMap.1 hj
      unfold depsOf at hj
      split at hj
      · cases hj
      · rename_i o ho
        obtain ⟨e, he, rfl⟩ := List.mem_map.1 hj
        obtain ⟨he, hb⟩ := List.mem_filter.1 he
        exact h i o ho (hS i hi) e (by simpa using he) hb
def coversB (md : Region.Mode) (ops : Array Oper) (m : Nat) : Nat → List Nat → Bool
  | 0, S => (List.range m).all fun i => S.contains i
  | k + 1, S => ((List.range m).all fun i => S.contains i) || coversB md ops m k (S ++ S.flatMap (depsOf md ops))
theorem covers_spec {m : Nat} : ∀ (k : Nat) (S : List Nat), coversB md ops m k S = true → ∃ k', ∀ i, i < m → i ∈ reachOf md ops k' S
  | 0, S, h => ⟨0, fun i hi => by simp only [coversB, List.all_eq_true, List.mem_range, List.contains_iff_mem] at h; exact h i hi⟩
  | k + 1, S, h => by
    simp only [coversB, Bool.or_eq_true] at h
    rcases h with h | h
    · exact ⟨0, fun i hi => by simp only [List.all_eq_true, List.mem_range, List.contains_iff_mem] at h; exact h i hi⟩
    · obtain ⟨k', hk⟩ := covers_spec k _ h
      exact ⟨k' + 1, hk⟩
/-- Each of the tail waits for all of the first m. -/
def waitsB (md : Region.Mode) (ops : Array Oper) (m k : Nat) : Bool := (List.range (ops.size - m)).all fun t => coversB md ops m k (depsOf md ops (m + t))
theorem waits_spec {m k j i : Nat} {listed : Array Bool} (hw : waitsB md ops m k = true) (h : DC md ops listed) (hj : m ≤ j) (hr : j ∈ Region.ready md ops listed) (hi : i < m) : listed.getD i false = true := by
  obtain ⟨_, o, ho, hall⟩ := mem_ready.1 hr
  have hlt : j < ops.size := (Array.getElem?_eq_some_iff.1 ho).1
  simp only [waitsB, List.all_eq_true, List.mem_range] at hw
  have h1 := hw (j - m) (by omega)
  rw [show m + (j - m) = j by omega] at h1
  obtain ⟨k', h1⟩ := covers_spec _ _ h1
  refine reach_listed h k' _ (fun x hx => ?_) i (h1 i hi)
  unfold depsOf at hx
  rw [ho] at hx
  obtain ⟨e, he, rfl⟩ := List.mem_map.1 hx
  obtain ⟨he, hb⟩ := List.mem_filter.1 he
  exact hall e (by simpa using he) hb

theorem getD_tf {listed : Array Bool} {i : Nat} (h1 : listed.getD i true = false) (h2 : listed.getD i false = true) : False := by
  rcases Nat.lt_or_ge i listed.size with h | h
  · simp [h] at h1 h2
    rw [h1] at h2
    cases h2
  · simp [Array.getElem?_eq_none h] at h2

/-- Operation i, which may come up now and yields v, may be taken ahead of all: what is known of it in a state. -/
structure Ahead (P : Program) (md : Region.Mode) (ops : Array Oper) (C : World → Prop) (i : Nat) (oi : Oper) (v : Value) (listed : Array Bool) (a : Act) : Prop where
  closed : DC md ops listed
  ready : i ∈ Region.ready md ops listed
  yields : YieldsIn P ops C oi v a
  apart : ∀ j oj, ops[j]? = some oj → j ≠ i → listed.getD j true = false → (∃ e ∈ oj.after, Region.binds md e = true ∧ e.on = i) ∨ oi.apart ops oj = true
section
variable {i : Nat} {oi : Oper} {v : Value} {listed : Array Bool} {a : Act}
/-- Whoever else may come up does not wait for i. -/
theorem Ahead.other (h : Ahead P md ops C i oi v listed a) {j : Nat} (hj : j ∈ Region.ready md ops listed) (hne : j ≠ i) : ∃ oj, ops[j]? = some oj ∧ oi.apart ops oj = true := by
  obtain ⟨hun, oj, ho, hall⟩ := mem_ready.1 hj
  refine ⟨oj, ho, ?_⟩
  rcases h.apart j oj ho hne hun with ⟨e, he, hb, hon⟩ | k
  · exact (getD_tf (mem_ready.1 h.ready).1 (hon ▸ hall e he hb)).elim
  · exact k
/-- .. and behind it all is known that was. -/
theorem Ahead.behind (h : Ahead P md ops C i oi v listed a) {j : Nat} (hj : j ∈ Region.ready md ops listed) (hne : j ≠ i) {a' : Act} (hy : YieldsIn P ops C oi v a') : Ahead P md ops C i oi v (listed.setIfInBounds j true) a' where
  closed := h.closed.set hj
  ready := ready_mono h.ready (Ne.symm hne)
  yields := hy
  apart := fun k ok hk hki hun => by
    rcases Nat.decEq j k with hjk | hjk
    · exact h.apart k ok hk hki (by rwa [getD_set_ne true hjk] at hun)
    · subst hjk
      exact h.apart j ok hk hki (mem_ready.1 hj).1
end
theorem Ahead.take {T : Array Bool → Act → Prop} {m k : Nat} (hw : waitsB md ops m k = true) (hTall : ∀ listed a, T listed a → ∀ j, j < m → listed.getD j true = true) (hs : Region.noSelect ops = true) {i : Nat} (him : i < m) {oi : Oper} {v : Value} (hi : ops[i]? = some oi) :
    ∀ (n : Nat) {listed : Array Bool} {a : Act}, Ahead P md ops C i oi v listed a → wpAnyP P md ops C T n (listed.setIfInBounds i true) (a.put oi.dst v) → wpAnyP P md ops C T (n + 1) listed a
  | n, listed, a, h, H => by
    refine ⟨List.ne_nil_of_mem h.ready, fun j hj => ?_⟩
    rcases Nat.decEq j i with hne | rfl
    · obtain ⟨oj, hoj, hap⟩ := h.other hj hne
      cases n with
      | zero =>
        exfalso
        rcases Nat.lt_or_ge j m with hjm | hjm
        · have h1 := hTall _ _ H j hjm
          rw [getD_set_ne true (Ne.symm hne), (mem_ready.1 hj).1] at h1
          cases h1
        · exact getD_tf (mem_ready.1 h.ready).1 (waits_spec hw h.closed hjm hj him)
      | succ n =>
        have sw := qOp_put hoj hap (fun cs b => Region.noSelect_spec hs i oi cs b hi) (fun cs b => Region.noSelect_spec hs j oj cs b hoj) h.yields (H.2 j (ready_mono hj hne))
        refine qOp_mono (fun a' hh => Ahead.take hw hTall hs him hi n (h.behind hj hne hh.1) ?_) sw
        have := hh.2
        rwa [Array.setIfInBounds_comm _ _ (Ne.symm hne)] at this
    · exact h.yields.qOp hi H
theorem apart_of {listed : Array Bool} {i : Nat} {oi : Oper} (hi : ops[i]? = some oi) (hf : Region.free md ops listed i = true) (j : Nat) (oj : Oper) (hj : ops[j]? = some oj) (hne : j ≠ i) (hun : listed.getD j true = false) : (∃ e ∈ oj.after, Region.binds md e = true ∧ e.on = i) ∨ oi.apart ops oj = true := by
  by_cases h : ∃ e ∈ oj.after, Region.binds md e = true ∧ e.on = i
  · exact .inl h
  · exact .inr (Region.free_spec hi hf j oj hj hne hun fun e he hb hon => h ⟨e, he, hb, hon⟩)

theorem wpAnyP_lex {T : Array Bool → Act → Prop} {m d : Nat} (hw : waitsB md ops m d = true) (hTall : ∀ listed a, T listed a → ∀ j, j < m → listed.getD j true = true) {Lm : Array Bool} {Q : Act → Prop} (hQ : ∀ a, Q a → T Lm a) (hs : Region.noSelect ops = true) {r : Nat} : ∀ (l : List Oper) (k : Nat) (listed : Array Bool) (a : Act), (∀ j, j < l.length → l[j]? = ops[k + j]?) → k + l.length = m → DC md ops listed →
    Region.lexFrom md ops (l.length + r) k listed = true → (List.range' k l.length).foldl (fun L j => L.setIfInBounds j true) listed = Lm → wpQuiet P ops C Q l a → wpAnyP P md ops C T l.length listed a
  | [], _, _, _, _, _, _, _, hL, h => by
    simp only [List.length_nil, List.range'_zero, List.foldl_nil] at hL
    subst hL
    exact hQ _ h
  | o :: l, k, listed, a, hl, hk, hdc, hB, hL, h => by
    have h0 : ops[k]? = some o := by simpa using (hl 0 (by simp)).symm
    rw [List.length_cons, show l.length + 1 + r = (l.length + r) + 1 by omega] at hB
    simp only [Region.lexFrom, Bool.and_eq_true] at hB
    obtain ⟨⟨hr, hf⟩, hB'⟩ := hB
    have hst : qOp P ops C k (wpQuiet P ops C Q l) a := by unfold qOp; simp only [h0]; exact h
    obtain ⟨v, hy, hK⟩ := yieldsIn_of_qOp h0 hst
    have hr' : k ∈ Region.ready md ops listed := by simpa using hr
    rw [List.length_cons] at hk
    refine Ahead.take hw hTall hs (by omega) h0 l.length ⟨hdc, hr', hy, apart_of h0 hf⟩ ?_
    refine wpAnyP_lex hw hTall hQ hs l (k + 1) _ _ (fun j hj => by have := hl (j + 1) (by simpa using hj); simpa [Nat.add_assoc, Nat.add_comm 1 j] using this) (by omega) (hdc.set hr') hB' ?_ hK
    rw [← hL, List.length_cons, List.range'_succ, List.foldl_cons]

/-- The rest come up one behind another. -/
def seqB (md : Region.Mode) (ops : Array Oper) : Nat → Nat → Array Bool → Bool
  | 0, _, listed => (Region.ready md ops listed).isEmpty
  | n + 1, k, listed => (Region.ready md ops listed == [k]) && seqB md ops n (k + 1) (listed.setIfInBounds k true)
theorem wpAny_seq {Q' : Exit → Act → World → Prop} : ∀ (l : List Oper) (k : Nat) (listed : Array Bool) (a : Act) (w : World), (∀ j, j < l.length → l[j]? = ops[k + j]?) → seqB md ops l.length k listed = true → wpList P ops Q' l a w → wpAny P md ops Q' l.length listed a w
  | [], _, _, _, _, _, hB, h => ⟨by simpa [seqB] using hB, h⟩
  | o :: l, k, listed, a, w, hl, hB, h => by
    have h0 : ops[k]? = some o := by simpa using (hl 0 (by simp)).symm
    simp only [List.length_cons, seqB, Bool.and_eq_true, beq_iff_eq] at hB
    have ih := fun a w => wpAny_seq (Q' := Q') l (k + 1) (listed.setIfInBounds k true) a w (fun j hj => by have := hl (j + 1) (by simpa using hj); simpa [Nat.add_assoc, Nat.add_comm 1 j] using this) hB.2
    refine ⟨fun h1 => (by rw [hB.1] at h1; cases h1), fun i hi => ?_⟩
    rw [hB.1] at hi
    have hik : i = k := by simpa using hi
    subst hik
    refine wpOp_mono ih ?_
    unfold wpOp
    simp only [h0]
    exact h

theorem dc_none {n : Nat} : DC md ops (Array.replicate n false) := by
  intro j o _ hl
  exfalso
  rcases Nat.lt_or_ge j n with h | h
  · simp [h] at hl
  · simp [h] at hl

/-- What a region's first m are asked, and its rest: they wait for all of them, and come one behind another. -/
def splitB (ops : Array Oper) (m d : Nat) : Bool := waitsB .any ops m d && (seqB .any ops (ops.size - m) m (Array.replicate m true ++ Array.replicate (ops.size - m) false) && decide ((List.range' 0 m).foldl (fun L j => L.setIfInBounds j true) (Array.replicate ops.size false) = Array.replicate m true ++ Array.replicate (ops.size - m) false))

/-- **A region whose first m are quiet in a class of worlds, in whatever order, and whose rest come one behind another.** -/
theorem wp_region_split {id : Nat} {Q : Exit → Act → World → Prop} {a : Act} {w : World} {l : List Oper} (m d : Nat) (hm : P.follows .mixedOrders = true) (hB : Region.lexB .any l.toArray = true) (hR : splitB l.toArray m d = true) (hml : m ≤ l.length) (hC : C { w with drawn := w.drawn + 1 })
    (h : wpQuiet P l.toArray C (fun a' => ∀ w', C w' → wpList P l.toArray Q (l.drop m) a' w') (l.take m) a) : (Code.region id l.toArray true).wp P Q a w := by
  simp only [splitB, Bool.and_eq_true, decide_eq_true_iff] at hR
  obtain ⟨h1, h2, h3⟩ := hR
  simp only [Region.lexB, Bool.and_eq_true] at hB
  refine wp_region_any hm ?_
  have hsz : l.toArray.size = m + (l.drop m).length := by simp; omega
  have ht : (l.take m).length = m := by simp; omega
  rw [hsz]
  refine wpAny_of_P (T := fun listed a' => listed = Array.replicate m true ++ Array.replicate (l.toArray.size - m) false ∧ ∀ w', C w' → wpList P l.toArray Q (l.drop m) a' w') (k := (l.drop m).length) ?_ m _ a _ hC ?_
  · rintro listed a' w' hw' ⟨rfl, hh⟩
    refine wpAny_seq (l.drop m) m _ a' w' (fun j hj => by simp) ?_ (hh w' hw')
    rw [show (l.drop m).length = l.toArray.size - m by simp]
    exact h2
  · have key := wpAnyP_lex (P := P) (C := C) (T := fun listed a' => listed = Array.replicate m true ++ Array.replicate (l.toArray.size - m) false ∧ ∀ w', C w' → wpList P l.toArray Q (l.drop m) a' w') h1 (by
        rintro listed a' ⟨rfl, _⟩ j hj
        simp [Array.getElem?_append, hj]) (Lm := Array.replicate m true ++ Array.replicate (l.toArray.size - m) false) (Q := fun a' => ∀ w', C w' → wpList P l.toArray Q (l.drop m) a' w') (fun a' ha => ⟨rfl, ha⟩) hB.1 (r := (l.drop m).length) (l.take m) 0 (Array.replicate l.toArray.size false) a (fun j hj => by
        rw [Nat.zero_add, List.getElem?_take, if_pos (by omega)]
        simp) (by omega) dc_none (by rw [ht, ← hsz]; exact hB.2) (by rw [ht]; exact h3) h
    rw [ht] at key
    rw [← hsz]
    exact key
end

end Go.Proofs.Ytaadlhcpgjibeaa
